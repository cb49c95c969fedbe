/-
  Merged texts: HfHeld, HfLaw, ForceLaw, SForceK, HfClone, HfCopy.
-/
import Derived.Test.YtckicpnnclbkpaaGreatDoorE38
import Derived.Test.YtckicpnnclbkpaaGreatDoorE37
namespace Go.Proofs.YtckicpnnclbkpaaGreatDoor.hf
open Go.ChangeShapes Go.WideShapes Go.ChangeAt Go.RowKit
open wd ow rl ok kp sl
set_option maxRecDepth 100000 in
set_option maxHeartbeats 1600000 in
theorem heldB_any (w : World) (v : Value) (x : Int) (n : Nat) (h : SeesR mbS w v (mbMs x n)) (hx : 1 ≤ x) (hn : x + 2 * n < 100000000) :
  Calls Tryz.prog 77 #[v, .int .i64 x] w (FoundPost w (x + 2 * n)) := by
 have HS := Lib.hid h
 obtain ⟨A, c, rfl, _⟩ := h
 have HL := Lib.hid (mbMs_len x n)
 rw [mbMs_len]
 go_enter Tryz.func77, Tryz.ntmps77
 go_wp2
 go_loopw [1, 5] (fun a i wr => ∃ (j : Nat) (y : Int), j ≤ n ∧ i = .int .i64 j ∧ a = .int .i64 y ∧ Hid (y = x + 2 * j) ∧ 1 ≤ y ∧ y + 2 * (n - j : Nat) < 100000000 ∧ Below w.heap.size w wr) (fun _ i _ => (n + 1 : Nat) - (intOf i).toNat)
 case atStart => exact ⟨0, x, by omega, rfl, rfl, by show x = x + 2 * ((0 : Nat) : Int); omega, hx, by omega, Below.refl _ _⟩
 case round =>
  obtain ⟨j, y, hj, rfl, rfl, HY, y0, y1, hB⟩ := hrel
  by_cases hjn : j < n
  ·have ha : (mbMs x n)[j]? = some (mbM y) := by rw [mbMs_at hjn, HY.out]
   obtain ⟨g, c', e, hg, _, t0, t1⟩ := mb_at (HS.out.later hB) ha
   rw [HL.out] at e
   injection e with e1 e2 e3
   subst e1; subst e3
   change wr.cell? ⟨g, j * 2, none⟩ = some (.int .i64 y) at t0
   change wr.cell? ⟨g, j * 2 + 1, none⟩ = some (.string (mt (y + 1).toNat)) at t1
   have hj0 : (0 : Int) ≤ (j : Int) := by omega
   have hj1 : (j : Int) < (n : Int) := by omega
   have hz := hB.size
   have HY2 := Lib.hid (show y + 1 + 1 = x + 2 * ((j + 1 : Nat) : Int) by have := HY.out; omega)
   have HM := Lib.hid (fun V => mark_int (y + 1) (by omega) (by omega) V)
   clear ha
   generalize mt (y + 1).toNat = txt at t1 HM
   go_wp2_with fail
   go_region_held3 (fun w' => w'.cell? ⟨g, j * 2 + 1, none⟩ = some (.string txt)) (first | exact t1 | exact s1 | go_keep) ((go_at_call 74; refine (HM.out _).mono ?_; rintro e w2 ⟨rfl, hB2⟩; have s1 := (hB2.cell (p := ⟨g, j * 2 + 1, none⟩) hg).trans t1))
   have hB3 : Below w.heap.size w w2 := hB.trans (Below.mono ⟨hB2.os, hB2.tape, hB2.output, hB2.size, hB2.block⟩ hz)
   clear hB2 s1 t0 t1
   go_wp2
   go_roundw
   case rel => exact ⟨j + 1, y + 1 + 1, by omega, by go_num, rfl, HY2.out, by omega, by omega, hB3⟩
   case measure => simp [intOf]; omega
  ·obtain rfl : j = n := by omega
   go_wp2
   go_ret
   exact ⟨ow.ret_int HY.out, hB⟩
set_option maxRecDepth 100000 in
set_option maxHeartbeats 1600000 in
theorem heldHs_any (w : World) (v : Value) (x : Int) (l : List Hf) (h : SeesH w v (hfMs x l)) (hx : 1 ≤ x) (hn : hfN x l < 100000000) :
  Calls Tryz.prog 51 #[v, .int .i64 x] w (FoundPost w (hfN x l)) := by
 have HS := Lib.hid h
 have HN := Lib.hid (show x + 5 * l.length + 2 * gotN l < 100000000 from hn)
 obtain ⟨A, c, rfl⟩ := h.form
 have HL := Lib.hid (hfMs_len l x)
 rw [hfMs_len]
 clear h hn
 go_enter Tryz.func51, Tryz.ntmps51
 go_wp2
 go_loopw [1, 5] (fun a i wr => ∃ (k : Nat) (y : Int), k ≤ l.length ∧ i = .int .i64 k ∧ a = .int .i64 y ∧ Hid (y = x + 5 * k + 2 * gotN (l.take k)) ∧ 1 ≤ y ∧ Hid (Below w.heap.size w wr)) (fun _ i _ => (l.length + 1 : Nat) - (intOf i).toNat)
 case atStart => exact ⟨0, x, by omega, rfl, rfl, by show x = _; simp [gotN], hx, Below.refl _ _⟩
 case round =>
  obtain ⟨k, y, hk, rfl, rfl, HY, y0, HB⟩ := hrel
  by_cases hkl : k < l.length
  ·have hh : l[k]? = some l[k] := List.getElem?_eq_getElem hkl
   have hat := hfMs_at (x := x) hh
   rw [← HY.out] at hat
   have hgt := gotN_take hh
   have hgl := gotN_le l (k + 1)
   generalize l[k] = h at hat hgt
   have hb : y + 5 + 2 * (h.got.length : Int) < 100000000 := by have h1 := HY.out; have h2 := HN.out; omega
   have hlb : (l.length : Int) < 100000000 := by have := HN.out; omega
   have HY2 := Lib.hid (show y + 1 + 1 + 1 + 1 + 1 + 2 * (h.got.length : Int) = x + 5 * ((k + 1 : Nat) : Int) + 2 * (gotN (l.take (k + 1)) : Nat) by have h1 := HY.out; omega)
   obtain ⟨g, c', A', c2, e, hg, _, t0, t1, t2, t3, t4, t5, hsm⟩ := (HS.out.later HB.out).at hat
   rw [HL.out] at e
   injection e with e1 e2 e3
   subst e1; subst e3
   change wr.cell? ⟨g, k * 6, none⟩ = some (.int .i64 y) at t0
   change wr.cell? ⟨g, k * 6 + 1, none⟩ = some (.int .i64 (y + 1)) at t1
   change wr.cell? ⟨g, k * 6 + 2, none⟩ = some (.int .i64 (y + 1 + 1)) at t2
   change wr.cell? ⟨g, k * 6 + 3, none⟩ = some (.int .i64 (y + 1 + 1 + 1)) at t3
   change wr.cell? ⟨g, k * 6 + 4, none⟩ = some (.int .i64 (y + 1 + 1 + 1 + 1)) at t4
   have HC := Lib.hid (heldB_any wr _ (y + 1 + 1 + 1 + 1 + 1) h.got.length hsm (by omega) (by omega))
   unfold FoundPost at HC
   have hk0 : (0 : Int) ≤ (k : Int) := by omega
   have hk1 : (k : Int) < (l.length : Int) := by omega
   clear hh hat hsm hgt hgl
   go_wp2_with fail
   refine HC.out.mono ?_
   rintro e w2 ⟨rfl, hB2⟩
   have HB2 := Lib.hid (HB.out.trans (hB2.mono HB.out.size))
   have hz0 : ¬ y + 1 + 1 + 1 + 1 + 1 + 2 * (h.got.length : Int) < 0 := by omega
   have HZ1 := Lib.hid (show 1 ≤ y + 1 + 1 + 1 + 1 + 1 + 2 * (h.got.length : Int) by omega)
   clear hB2 HC t0 t1 t2 t3 t4 t5 hb y0
   generalize y + 1 + 1 + 1 + 1 + 1 + 2 * (h.got.length : Int) = z at HY2 hz0 HZ1 ⊢
   have hkb : k < 100000000 := by omega
   clear HS HN HL HB e2 hx hg hk0 hk1 hlb
   generalize y + 1 + 1 + 1 + 1 + 1 = y5
   generalize y + 1 + 1 + 1 + 1 = y4
   generalize y + 1 + 1 + 1 = y3
   generalize y + 1 + 1 = y2
   generalize y + 1 = y1
   go_wp2
   go_roundw
   case rel => exact ⟨k + 1, _, by omega, by go_num, rfl, HY2.out, HZ1.out, HB2.out⟩
   case measure => simp [intOf]; omega
  ·obtain rfl : k = l.length := by omega
   have HY2 := Lib.hid (show y = hfN x l by have := HY.out; rwa [List.take_length] at this)
   go_wp2
   go_ret
   exact ⟨ow.ret_int HY2.out, HB.out⟩
set_option maxRecDepth 100000 in
set_option maxHeartbeats 1600000 in
theorem heldNode_any (w : World) (id : Int) (up : Bool) (s : ByteArray) (f : Int) (v : Value) (x : Int) (l : List Hf) (h : SeesH w v (hfMs x l)) (hx : 1 ≤ x) (hn : hfN x l < 100000000) :
  Calls Tryz.prog 21 #[nodeV id up s f v, .int .i64 x] w (FoundPost w (hfN x l)) := by
 have BV := (Below.refl w.heap.size w).alloc (Nat.le_refl _) (.cells (nodeC id up s f v) 32)
 have HM := Lib.hid (heldHs_any _ v x l (h.later BV) hx hn)
 unfold FoundPost at HM
 have HB := Lib.hid BV
 have hy : ¬ hfN x l < 0 := by unfold hfN; omega
 clear h BV hn hx
 generalize hfN x l = y at HM hy ⊢
 go_enter Tryz.func21, Tryz.ntmps21
 go_wp2_with fail
 generalize w.alloc (.cells (nodeC id up s f v) 32) = V at HM HB ⊢
 refine HM.out.mono ?_
 rintro e w1 ⟨rfl, B1⟩
 have HB1 := Lib.hid (HB.out.trans (B1.mono HB.out.size))
 clear B1 HM
 go_wp2
 go_ret
 exact ⟨rfl, HB1.out⟩
end Go.Proofs.YtckicpnnclbkpaaGreatDoor.hf

namespace Go.Proofs.YtckicpnnclbkpaaGreatDoor.hf
open Go.ChangeShapes Go.WideShapes Go.ChangeAt Go.RowKit
open wd ow rl ok kp
structure Nd where
 id : Int
 up : Bool
 s : ByteArray
 f : Int
 l : List Hf
abbrev noN : Nd := ⟨0, false, ⟨#[]⟩, 0, []⟩
def NodeP (R : Nd → Prop) (w : World) (e : Ending) (w' : World) : Prop := ∃ (id : Int) (up : Bool) (s : ByteArray) (f : Int) (l : List Hf) (v : Value) (lr : List Hr), R ⟨id, up, s, f, l⟩ ∧ e = .returned (nodeV id up s f v) ∧ OwnHs w w' v lr l
def NodeS (R : Nd → Prop) (w : World) (e : Ending) (w' : World) : Prop := ∃ (id : Int) (up : Bool) (s : ByteArray) (f : Int) (l : List Hf) (v : Value), R ⟨id, up, s, f, l⟩ ∧ e = .returned (nodeV id up s f v) ∧ SeesH w' v l ∧ Below w.heap.size w w'
theorem ownHs_nil {w w' : World} (hB : Below w.heap.size w w') : OwnHs w w' (.slice none 0 0) [] [] :=
 ⟨⟨World.ownsRow_nil _ _ _ _, hB⟩, rfl, fun i r h hr => by simp at hr, fun i r hr => by simp at hr, fun i j r r' _ hr => by simp at hr⟩
def FallR (id : Int) (up : Bool) (s : ByteArray) (f : Int) (l : List Hf) (k : Int) (n : Nd) : Prop := (NodeOk id up s f l true ∧ n = ⟨id, false, sh.fallS s f k, sh.fallF s f k, []⟩) ∨ (NodeOk id up s f l false ∧ n = noN)
def RiseR (id : Int) (up : Bool) (s : ByteArray) (f : Int) (l : List Hf) (n : Nd) : Prop := (NodeOk id up s f l true ∧ n = ⟨id, true, s, f, l⟩) ∨ (NodeOk id up s f l false ∧ n = noN)
theorem tf (h : true = false) : False := by cases h
theorem fewT_nil : FewT [] := by simp [FewT, gotN]
def RgH (v : Value) (lr : List Hr) (lo hi : Nat) : Prop := (∀ b, v.ownBlock = some b → lo ≤ b ∧ b < hi) ∧ ∀ (i : Nat) (r : Hr), lr[i]? = some r → ∀ b, r.v.ownBlock = some b → lo ≤ b ∧ b < hi
section
variable {w w' : World} {v v' : Value} {lr lr' : List Hr} {l l' : List Hf} {B lo hi lo' hi' : Nat}
theorem OwnHAt.rg (h : OwnHAt B w v lr l) : RgH v lr B w.heap.size := by
 refine ⟨fun b hb => h.row.lt hb, fun i r hr b hb => ?_⟩
 have hi := (List.getElem?_eq_some_iff.1 hr).1
 obtain ⟨x, hx⟩ : ∃ x, l[i]? = some x := ⟨_, List.getElem?_eq_getElem (by rw [← h.len]; exact hi)⟩
 exact (h.got i r x hr hx).2.lt hb
theorem OwnHs.rg (h : OwnHs w w' v lr l) : RgH v lr w.heap.size w'.heap.size := h.at_.rg
theorem MarkedH.other (M : MarkedH w w' v lr) (G : RgH v lr lo hi) {b : Nat} (hb : b < w.heap.size) (hs : b < lo ∨ hi ≤ b) : w'.heap[b]? = w.heap[b]? :=
 M.block b hb (fun e => by have := G.1 b e; omega) (fun i r hr e => by have := G.2 i r hr b e; omega)
theorem MarkedH.below (M : MarkedH w w' v lr) (G : RgH v lr lo hi) (hB : B ≤ lo) (hw : B ≤ w.heap.size) : Below B w w' :=
 ⟨M.os, M.tape, M.output, M.size, fun b hb => M.other G (by omega) (.inl (by omega))⟩
theorem MarkedH.blk {r : Nat} {t : TypeId} {cs : Array Value} (M : MarkedH w w' v lr) (G : RgH v lr lo hi) (h : Blk w r t cs) (hs : r < lo ∨ hi ≤ r) : Blk w' r t cs := (M.other G h.lt hs).trans h
theorem OwnHAt.beside (h : OwnHAt B w v' lr' l') (G' : RgH v' lr' lo' hi') (M : MarkedH w w' v lr) (G : RgH v lr lo hi) (hs : hi ≤ lo' ∨ hi' ≤ lo) : OwnHAt B w' v' lr' l' := by
 have hk : ∀ b, lo' ≤ b → b < hi' → b < w.heap.size → w'.heap[b]? = w.heap[b]? := fun b h1 h2 h3 => M.other G h3 (by omega)
 refine ⟨h.row.same fun b hb => hk b (G'.1 b hb).1 (G'.1 b hb).2 (h.row.lt hb).2, h.len, fun i r x hr hx => ⟨(h.got i r x hr hx).1, (h.got i r x hr hx).2.same fun b hb => hk b (G'.2 i r hr b hb).1 (G'.2 i r hr b hb).2 ((h.got i r x hr hx).2.lt hb).2⟩, h.far, h.apart⟩
end
end Go.Proofs.YtckicpnnclbkpaaGreatDoor.hf

namespace Go.Proofs.YtckicpnnclbkpaaGreatDoor.hf
open Go.ChangeShapes Go.WideShapes Go.ChangeAt Go.RowKit
open wd ow rl ok kp nb sl dc
def ForceR (id : Int) (up : Bool) (s : ByteArray) (f : Int) (l : List Hf) (n : Nd) (b : Bool) : Prop :=
 (NodeOk id up s f l true ∧ up = true ∧ f ≠ (s.size : Int) ∧ n = ⟨id, true, s, s.size, l⟩ ∧ b = true) ∨ (NodeOk id up s f l true ∧ ¬ (up = true ∧ f ≠ (s.size : Int)) ∧ n = ⟨id, up, s, f, l⟩ ∧ b = false) ∨ (NodeOk id up s f l false ∧ n = noN ∧ b = false)
theorem forceR_one {id : Int} {up : Bool} {s : ByteArray} {f : Int} {l : List Hf} {n n' : Nd} {b b' : Bool} (h : ForceR id up s f l n b) (h' : ForceR id up s f l n' b') : n = n' ∧ b = b' := by
 rcases h with ⟨a, u, v, rfl, rfl⟩ | ⟨a, u, rfl, rfl⟩ | ⟨a, rfl, rfl⟩ <;> rcases h' with ⟨a', u', v', rfl, rfl⟩ | ⟨a', u', rfl, rfl⟩ | ⟨a', rfl, rfl⟩
 ·exact ⟨rfl, rfl⟩
 ·exact (u' ⟨u, v⟩).elim
 ·exact (tf (nodeOk_one a a')).elim
 ·exact (u ⟨u', v'⟩).elim
 ·exact ⟨rfl, rfl⟩
 ·exact (tf (nodeOk_one a a')).elim
 ·exact (tf (nodeOk_one a' a)).elim
 ·exact (tf (nodeOk_one a' a)).elim
 ·exact ⟨rfl, rfl⟩
theorem forceR_few {id : Int} {up : Bool} {s : ByteArray} {f : Int} {l : List Hf} {n : Nd} {b : Bool} (hl : FewT l) (h : ForceR id up s f l n b) : FewT n.l := by
 rcases h with ⟨_, _, _, rfl, _⟩ | ⟨_, _, rfl, _⟩ | ⟨_, rfl, _⟩
 ·exact hl
 ·exact hl
 ·exact fewT_nil
def NodeP2 (R : Nd → Bool → Prop) (w : World) (e : Ending) (w' : World) : Prop := ∃ (id : Int) (up : Bool) (s : ByteArray) (f : Int) (l : List Hf) (v : Value) (lr : List Hr) (b : Bool), R ⟨id, up, s, f, l⟩ b ∧ e = .returned (.tuple #[nodeV id up s f v, .bool b]) ∧ OwnHs w w' v lr l
def NodeS2 (R : Nd → Bool → Prop) (w : World) (e : Ending) (w' : World) : Prop := ∃ (id : Int) (up : Bool) (s : ByteArray) (f : Int) (l : List Hf) (v : Value) (b : Bool), R ⟨id, up, s, f, l⟩ b ∧ e = .returned (.tuple #[nodeV id up s f v, .bool b]) ∧ SeesH w' v l ∧ Below w.heap.size w w'
end Go.Proofs.YtckicpnnclbkpaaGreatDoor.hf

namespace Go.Proofs.YtckicpnnclbkpaaGreatDoor.hf
open Go.ChangeShapes Go.WideShapes Go.ChangeAt Go.RowKit
open wd ow rl ok kp nb sl dc
set_option maxRecDepth 100000 in
set_option maxHeartbeats 1600000 in
theorem sforceK_any (w : World) (id : Int) (up : Bool) (s : ByteArray) (f : Int) (g : Value) (l : List Hf) (hs : s.size ≤ 1048576) (h : SeesH w g l) (hl : FewH l) :
  Calls Tryz.prog 19 #[nodeV id up s f g] w (NodeS2 (ForceR id up s f l) w) := by
 have K0 := Lib.hid ((Blk.new w 32 (nodeC id up s f g)).alloc (.cells (nodeC 0 false ⟨#[]⟩ 0 (.slice none 0 0)) 32))
 have R0 := Blk.new (w.alloc (.cells (nodeC id up s f g) 32)) 32 (nodeC 0 false ⟨#[]⟩ 0 (.slice none 0 0))
 simp only [World.size_alloc] at R0
 have HR0 := Lib.hid R0
 have HB0 := Lib.hid (((Below.refl w.heap.size w).alloc (Nat.le_refl _) (.cells (nodeC id up s f g) 32)).alloc (by simp) (.cells (nodeC 0 false ⟨#[]⟩ 0 (.slice none 0 0)) 32))
 have HN := Lib.hid (fun V (hV : Below w.heap.size w V) => snode_any V id up s f _ l hs (h.later hV) hl)
 unfold OkPost at HN
 have HCp := Lib.hid (fun V (hV : Below w.heap.size w V) => scopyN_any V id up s f g l (h.later hV) hl)
 unfold CopyS at HCp
 have HFo := Lib.hid (fun V => sh.sforce_of (fun _ => True) (fun _ _ _ _ => trivial) s f (fun V _ => sh.sok_any s f V (by omega)) V trivial)
 unfold sh.ShPost at HFo
 clear h hl R0
 go_enter Tryz.func19, Tryz.ntmps19
 go_wp2_with fail
 generalize (w.alloc (.cells (nodeC id up s f g) 32)).alloc (.cells (nodeC 0 false ⟨#[]⟩ 0 (.slice none 0 0)) 32) = V at K0 HR0 HB0 ⊢
 refine (HN.out _ HB0.out).mono ?_
 rintro e w1 ⟨b, rfl, hN, B1⟩
 have HB1 := Lib.hid (HB0.out.trans (B1.mono HB0.out.size))
 have K1 := Lib.hid (K0.out.below B1 K0.out.lt)
 have R1 := Lib.hid (HR0.out.below B1 HR0.out.lt)
 have HNo := Lib.hid hN
 clear B1 K0 HR0 HB0 HN hN
 cases b with
 | false =>
  obtain ⟨r0, r1, r2, r3, r4, g0, g1, g2, g3, g4⟩ := five5 R1.out
  have HC := Lib.hid (put5n_blk (a' := .int .i64 0) (b' := .bool false) (c' := .string ⟨#[]⟩) (d' := .int .i64 0) (e' := .slice none 0 0) R1.out)
  have HE := Lib.hid (put5n_below (B := w.heap.size) (R := w.heap.size + 1) (Nat.le_succ _) HB1.out (.int .i64 0) (.bool false) (.string ⟨#[]⟩) (.int .i64 0) (.slice none 0 0))
  go_wp2
  obtain ⟨x0, x1, x2, x3, x4, _⟩ := five5 HC.out
  exact bodyPost_ret (v := .tuple #[.agg #[.int .i64 0, .bool false, .string ⟨#[]⟩, .int .i64 0, .slice none 0 0], .bool false]) (by simp [results, Tryz.results19, go_sem, x0, x1, x2, x3, x4]) rfl ⟨_, _, _, _, [], _, false, .inr (.inr ⟨HNo.out, rfl, rfl⟩), rfl, seesH_nil _, HE.out⟩
 | true =>
  have hok : sh.okSh s f = true := by rcases HNo.out with ⟨_, h, _⟩ | ⟨h, _⟩; exact h; cases h
  have e1 : sh.forceS s f = s := by simp [sh.forceS, hok]
  have e2 : sh.forceF s f = (s.size : Nat) := by simp [sh.forceF, hok]
  rw [e1, e2] at HFo
  clear hok e1 e2
  obtain ⟨n0, n1, n2, n3, n4, _⟩ := five5 K1.out
  go_wp2_with fail
  refine (HCp.out _ HB1.out).mono ?_
  rintro e w2 ⟨v, lr, rfl, hS, B2⟩
  obtain ⟨A1, c1, rfl⟩ := hS.sees.form
  have hA := (Below.refl w2.heap.size w2).alloc (Nat.le_refl _) (.cells (nodeC id up s f (.slice A1 l.length c1)) 32)
  have BA := B2.trans (hA.mono B2.size)
  have HB2 := Lib.hid (HB1.out.trans (BA.mono HB1.out.size))
  have K2 := Lib.hid (K1.out.below BA K1.out.lt)
  have R2 := Lib.hid (R1.out.below BA R1.out.lt)
  have KB := Lib.hid (Blk.new w2 32 (nodeC id up s f (.slice A1 l.length c1)))
  have HS0 := Lib.hid hS
  have HS := Lib.hid (hS.later hA)
  have HC2 := Lib.hid hA
  have HL1 := Lib.hid (show w.heap.size + 1 < w1.heap.size from R1.out.lt)
  have HL2 := Lib.hid (show w1.heap.size ≤ w2.heap.size from B2.size)
  clear hA BA B2 hS K1 R1 HB1 n0 n1 n2 n3 n4 HCp
  go_upto_region 4 with (fail)
  generalize w2.alloc (.cells (nodeC id up s f (.slice A1 l.length c1)) 32) = W at K2 R2 KB HS HC2 HB2 ⊢
  cases up with
  | false =>
   have HF := Lib.hid (show ForceR id false s f l ⟨id, false, s, f, l⟩ false from .inr (.inl ⟨HNo.out, (fun h => by cases h.1), rfl, rfl⟩))
   obtain ⟨n0, n1, n2, n3, n4, _⟩ := five5 K2.out
   obtain ⟨p0, p1, p2, p3, p4, _⟩ := five5 KB.out
   obtain ⟨r0, r1, r2, r3, r4, g0, g1, g2, g3, g4⟩ := five5 R2.out
   have HC := Lib.hid (put5n_blk (a' := .int .i64 id) (b' := .bool false) (c' := .string s) (d' := .int .i64 f) (e' := .slice A1 l.length c1) R2.out)
   have HE := Lib.hid (put5n_below (B := w.heap.size) (R := w.heap.size + 1) (Nat.le_succ _) HB2.out (.int .i64 id) (.bool false) (.string s) (.int .i64 f) (.slice A1 l.length c1))
   have HA := Lib.hid (HS.out.put5 (R := w.heap.size + 1) HL1.out (.int .i64 id) (.bool false) (.string s) (.int .i64 f) (.slice A1 l.length c1))
   go_wp2
   obtain ⟨x0, x1, x2, x3, x4, _⟩ := five5 HC.out
   exact bodyPost_ret (v := .tuple #[.agg #[.int .i64 id, .bool false, .string s, .int .i64 f, .slice A1 l.length c1], .bool false]) (by simp [results, Tryz.results19, go_sem, x0, x1, x2, x3, x4]) rfl ⟨_, _, _, _, l, _, false, HF.out, rfl, HA.out.sees, HE.out⟩
  | true =>
   by_cases hf : f = (s.size : Int)
   ·have HF := Lib.hid (show ForceR id true s f l ⟨id, true, s, f, l⟩ false from .inr (.inl ⟨HNo.out, (fun h => h.2 hf), rfl, rfl⟩))
    clear HNo HFo
    subst hf
    obtain ⟨n0, n1, n2, n3, n4, _⟩ := five5 K2.out
    obtain ⟨p0, p1, p2, p3, p4, _⟩ := five5 KB.out
    obtain ⟨r0, r1, r2, r3, r4, g0, g1, g2, g3, g4⟩ := five5 R2.out
    have HC := Lib.hid (put5n_blk (a' := .int .i64 id) (b' := .bool true) (c' := .string s) (d' := .int .i64 s.size) (e' := .slice A1 l.length c1) R2.out)
    have HE := Lib.hid (put5n_below (B := w.heap.size) (R := w.heap.size + 1) (Nat.le_succ _) HB2.out (.int .i64 id) (.bool true) (.string s) (.int .i64 s.size) (.slice A1 l.length c1))
    have HA := Lib.hid (HS.out.put5 (R := w.heap.size + 1) HL1.out (.int .i64 id) (.bool true) (.string s) (.int .i64 s.size) (.slice A1 l.length c1))
    go_wp2
    obtain ⟨x0, x1, x2, x3, x4, _⟩ := five5 HC.out
    exact bodyPost_ret (v := .tuple #[.agg #[.int .i64 id, .bool true, .string s, .int .i64 s.size, .slice A1 l.length c1], .bool false]) (by simp [results, Tryz.results19, go_sem, x0, x1, x2, x3, x4]) rfl ⟨_, _, _, _, l, _, false, HF.out, rfl, HA.out.sees, HE.out⟩
   ·have HF := Lib.hid (show ForceR id true s f l ⟨id, true, s, s.size, l⟩ true from .inl ⟨HNo.out, rfl, hf, rfl, rfl⟩)
    have hfb : (f == (s.size : Int)) = false := by simpa using hf
    obtain ⟨n0, n1, n2, n3, n4, _⟩ := five5 K2.out
    go_wp2_with fail
    refine (HFo.out _).mono ?_
    rintro e w3 ⟨rfl, B3⟩
    have k3 := KB.out.below B3 KB.out.lt
    have K4 := Lib.hid (show Blk ((w3.setCell ⟨w2.heap.size, 2, none⟩ (.string s)).setCell ⟨w2.heap.size, 3, none⟩ (.int .i64 s.size)) w2.heap.size 32 (nodeC id true s s.size (.slice A1 l.length c1)) from (k3.put 2 _).put 3 _)
    have R4 := Lib.hid (((R2.out.below B3 R2.out.lt).far (p := ⟨w2.heap.size, 2, none⟩) (by show w.heap.size + 1 ≠ w2.heap.size; have := HL1.out; have := HL2.out; omega) (.string s)).far (p := ⟨w2.heap.size, 3, none⟩) (by show w.heap.size + 1 ≠ w2.heap.size; have := HL1.out; have := HL2.out; omega) (.int .i64 s.size))
    have HS4 := Lib.hid (HS0.out.later (((HC2.out.trans (B3.mono HC2.out.size)).setCell (p := ⟨w2.heap.size, 2, none⟩) (Nat.le_refl _) (.string s)).setCell (p := ⟨w2.heap.size, 3, none⟩) (Nat.le_refl _) (.int .i64 s.size)))
    have HB4 := Lib.hid (((HB2.out.trans (B3.mono HB2.out.size)).setCell (p := ⟨w2.heap.size, 2, none⟩) (by show w.heap.size ≤ w2.heap.size; have := HL1.out; have := HL2.out; omega) (.string s)).setCell (p := ⟨w2.heap.size, 3, none⟩) (by show w.heap.size ≤ w2.heap.size; have := HL1.out; have := HL2.out; omega) (.int .i64 s.size))
    obtain ⟨_, _, y2, y3, _, _, _, z2, z3, _⟩ := five5 k3
    clear n0 n1 n2 n3 n4 B3 K2 R2 KB HS HC2 HB2 HFo k3
    go_upto_region 7 with (fail)
    clear y2 y3 z2 z3
    generalize (w3.setCell ⟨w2.heap.size, 2, none⟩ (.string s)).setCell ⟨w2.heap.size, 3, none⟩ (.int .i64 s.size) = W4 at K4 R4 HS4 HB4 ⊢
    obtain ⟨p0, p1, p2, p3, p4, _⟩ := five5 K4.out
    obtain ⟨r0, r1, r2, r3, r4, g0, g1, g2, g3, g4⟩ := five5 R4.out
    have HC := Lib.hid (put5n_blk (a' := .int .i64 id) (b' := .bool true) (c' := .string s) (d' := .int .i64 s.size) (e' := .slice A1 l.length c1) R4.out)
    have HE := Lib.hid (put5n_below (B := w.heap.size) (R := w.heap.size + 1) (Nat.le_succ _) HB4.out (.int .i64 id) (.bool true) (.string s) (.int .i64 s.size) (.slice A1 l.length c1))
    have HA := Lib.hid (HS4.out.put5 (R := w.heap.size + 1) HL1.out (.int .i64 id) (.bool true) (.string s) (.int .i64 s.size) (.slice A1 l.length c1))
    go_wp2
    obtain ⟨x0, x1, x2, x3, x4, _⟩ := five5 HC.out
    exact bodyPost_ret (v := .tuple #[.agg #[.int .i64 id, .bool true, .string s, .int .i64 s.size, .slice A1 l.length c1], .bool true]) (by simp [results, Tryz.results19, go_sem, x0, x1, x2, x3, x4]) rfl ⟨_, _, _, _, l, _, true, HF.out, rfl, HA.out.sees, HE.out⟩
end Go.Proofs.YtckicpnnclbkpaaGreatDoor.hf

namespace Go.Proofs.YtckicpnnclbkpaaGreatDoor.hf
open Go.ChangeShapes Go.WideShapes Go.ChangeAt Go.RowKit
open wd ow rl ok kp nb
def CloneP {α : Type} (S : Shape α) (t : TypeId) (w : World) (l : List α) (e : Ending) (w' : World) : Prop := ∃ v, e = .returned v ∧ OwnR S t w w' v l
set_option maxRecDepth 100000 in
theorem cloneX (w : World) (v : Value) (l : List Mb) (h : SeesR mbS w v l) (hl : l.length ≤ 1048576) :
  Calls Tryz.prog 95 #[v] w (CloneP mbS 97 w l) := by
 obtain ⟨i0, hi, hz0, hz1, hz2⟩ := info_parts infoMb
 have HS := Lib.hid h
 obtain ⟨A, c, rfl, hc⟩ := h
 rcases hc with ⟨rfl, rfl, rfl⟩ | ⟨g, rfl, hg, hcell⟩
 ·have hn := fun (W : World) (a : Option Addr) (n c n' c' : Nat) => Lib.run_eql_slice_nil (P := Tryz.prog) W 60 97 a n c n' c' Tryz.underlying60
  go_enter Tryz.func95, Tryz.ntmps95
  go_wp2
  go_ret
  exact ⟨_, rfl, OwnR.nil w⟩
 ·have hn := fun (W : World) (a : Option Addr) (n c n' c' : Nat) => Lib.run_eql_slice_nil (P := Tryz.prog) W 60 97 a n c n' c' Tryz.underlying60
  have PA := SeesR.part (HS.out.later ((Below.refl _ w).alloc (Nat.le_refl _) (.cells #[] 97)))
  have ON := ownAt_new (S := mbS) (t := 97) (B := w.heap.size) w (Nat.le_refl _)
  go_enter Tryz.func95, Tryz.ntmps95
  go_wp2_with (at_builtin; refine wpList_append_recs mbS (by decide) rfl _ _ 60 rfl w.heap.size 97 i0 _ 24 Tryz.underlying60 hi hz0 hz1 hz2 rfl _ 0 [] rfl ON (some ⟨g, 0, none⟩) _ c l rfl rfl PA ?e3 ?e4 ?e5 ?_)
  case e3 => unfold maxLen; omega
  case e4 => omega
  case e5 => simp
  intro v1 w1 hown hgrow
  have O1 : OwnAt mbS 97 w.heap.size w1 v1 l := ownAt_of hown (by simp)
  have HO := Lib.hid (show OwnR mbS 97 w w1 v1 l from ⟨O1, ((Below.refl _ w).alloc (Nat.le_refl _) _).trans (ON.below hgrow (by simp))⟩)
  clear hown hgrow O1 ON PA
  go_wp2
  go_ret
  exact ⟨_, rfl, HO.out⟩
set_option maxRecDepth 100000 in
theorem cloneH (w : World) (v : Value) (l : List Hr) (h : SeesR hrS w v l) (hl : l.length ≤ 1048576) :
  Calls Tryz.prog 94 #[v] w (CloneP hrS 62 w l) := by
 obtain ⟨i0, hi, hz0, hz1, hz2⟩ := info_parts infoHf
 have HS := Lib.hid h
 obtain ⟨A, c, rfl, hc⟩ := h
 rcases hc with ⟨rfl, rfl, rfl⟩ | ⟨g, rfl, hg, hcell⟩
 ·have hn := fun (W : World) (a : Option Addr) (n c n' c' : Nat) => Lib.run_eql_slice_nil (P := Tryz.prog) W 30 62 a n c n' c' Tryz.underlying30
  go_enter Tryz.func94, Tryz.ntmps94
  go_wp2
  go_ret
  exact ⟨_, rfl, OwnR.nil w⟩
 ·have hn := fun (W : World) (a : Option Addr) (n c n' c' : Nat) => Lib.run_eql_slice_nil (P := Tryz.prog) W 30 62 a n c n' c' Tryz.underlying30
  have PA := SeesR.part (HS.out.later ((Below.refl _ w).alloc (Nat.le_refl _) (.cells #[] 62)))
  have ON := ownAt_new (S := hrS) (t := 62) (B := w.heap.size) w (Nat.le_refl _)
  go_enter Tryz.func94, Tryz.ntmps94
  go_wp2_with (at_builtin; refine wpList_append_recs hrS (by decide) rfl _ _ 30 rfl w.heap.size 62 i0 _ 64 Tryz.underlying30 hi hz0 hz1 hz2 rfl _ 0 [] rfl ON (some ⟨g, 0, none⟩) _ c l rfl rfl PA ?e3 ?e4 ?e5 ?_)
  case e3 => unfold maxLen; omega
  case e4 => omega
  case e5 => simp
  intro v1 w1 hown hgrow
  have O1 : OwnAt hrS 62 w.heap.size w1 v1 l := ownAt_of hown (by simp)
  have HO := Lib.hid (show OwnR hrS 62 w w1 v1 l from ⟨O1, ((Below.refl _ w).alloc (Nat.le_refl _) _).trans (ON.below hgrow (by simp))⟩)
  clear hown hgrow O1 ON PA
  go_wp2
  go_ret
  exact ⟨_, rfl, HO.out⟩
end Go.Proofs.YtckicpnnclbkpaaGreatDoor.hf

namespace Go.Proofs.YtckicpnnclbkpaaGreatDoor.hf
open Go.ChangeShapes Go.WideShapes Go.ChangeAt Go.RowKit
open wd ow rl ok kp nb
def FewH0 (l : List Hf) : Prop := l.length ≤ 1048576 ∧ ∀ h ∈ l, h.got.length ≤ 1048576
abbrev Hr.with (r : Hr) (A : Option Addr) (m c : Nat) : Hr := ⟨r.f, r.n, r.t, r.u, r.z, A, m, c⟩
theorem own_put5 {B g n c : Nat} {w : World} {lr : List Hr} (h : OwnAt hrS 62 B w (.slice (some ⟨g, 0, none⟩) n c) lr) {k : Nat} {r : Hr} (hk : lr[k]? = some r) (A : Option Addr) (m d : Nat) :
  OwnAt hrS 62 B (w.setCell ⟨g, k * 6 + 5, none⟩ (.slice A m d)) (.slice (some ⟨g, 0, none⟩) n c) (lr.set k (r.with A m d)) := by
 have hkl := (List.getElem?_eq_some_iff.1 hk).1
 rcases h.2 with ⟨e, _⟩ | ⟨g', cap, cur, e, hb, hh', hn, hm, hs, ht⟩
 ·cases e
 ·injection e with e1 e2 e3
  injection e1 with e1
  injection e1 with e1 _ _
  subst e1; subst e3; subst e2
  have hs6 : cur.size = c * 6 := hs
  have hB2 := (show Blk w g 62 cur from hh').put (k * 6 + 5) (.slice A m d)
  have hF : Fill hrS 62 g c (lr.set k (r.with A m d)) (lr.set k (r.with A m d)).length (w.setCell ⟨g, k * 6 + 5, none⟩ (.slice A m d)) := by
   refine ⟨_, hB2, by simpa using hs, fun i x hi hx j u hu => ?_⟩
   have hj : j < 6 := by have := (List.getElem?_eq_some_iff.1 hu).1; exact this
   show (cur.setIfInBounds (k * 6 + 5) (.slice A m d))[i * 6 + j]? = some u
   rw [Array.getElem?_setIfInBounds]
   have hold : ∀ i y, lr[i]? = some y → ∀ j u, (hrF y)[j]? = some u → cur[i * 6 + j]? = some u := fun i y hy j u hu => by
    have hj : j < 6 := (List.getElem?_eq_some_iff.1 hu).1
    have hi' := (List.getElem?_eq_some_iff.1 hy).1
    have hf := flat_at hrS.len lr i y hy j hj
    rw [show (hrS.f y)[j]? = some u from hu] at hf
    have h9 : (cur.toList.take (lr.length * 6))[i * 6 + j]? = some u := by rw [show cur.toList.take (lr.length * 6) = lr.flatMap hrF from ht]; exact hf
    have hlt : i * 6 + j < lr.length * 6 := by omega
    rw [List.getElem?_take_of_lt hlt] at h9
    simpa using h9
   by_cases hik : i = k
   ·subst hik
    rw [List.getElem?_set_self hkl] at hx
    injection hx with hx
    subst hx
    by_cases h5 : j = 5
    ·subst h5
     rw [if_pos rfl, if_pos (by have h7 : lr.length ≤ c := hn; omega)]
     exact hu
    ·rw [if_neg (by omega)]
     refine hold i r hk j u ?_
     have : j = 0 ∨ j = 1 ∨ j = 2 ∨ j = 3 ∨ j = 4 := by omega
     rcases this with rfl | rfl | rfl | rfl | rfl <;> exact hu
   ·rw [List.getElem?_set_ne (fun e => hik e.symm)] at hx
    rw [if_neg (by omega)]
    exact hold i x hx j u hu
  have := kp.Fill.ownAt (B := B) hF hb (by rw [List.length_set]; exact hn) hm
  rw [List.length_set] at this
  exact this
structure CpH (w wr : World) (v : Value) (k : Nat) (l : List Hf) (lr : List Hr) : Prop where
 row : OwnAt hrS 62 w.heap.size wr v lr
 bel : Below w.heap.size w wr
 len : lr.length = l.length
 num : ∀ (i : Nat) (r : Hr) (h : Hf), lr[i]? = some r → l[i]? = some h → Nums6 r h
 done : ∀ (i : Nat) (r : Hr) (h : Hf), i < k → lr[i]? = some r → l[i]? = some h → OwnAt mbS 97 w.heap.size wr r.v h.got
 far : ∀ (i : Nat) (r : Hr), i < k → lr[i]? = some r → Apart v r.v
 apart : ∀ (i j : Nat) (r r' : Hr), i < k → j < k → i ≠ j → lr[i]? = some r → lr[j]? = some r' → Apart r.v r'.v
 todo : ∀ (i : Nat) (r : Hr) (h : Hf), k ≤ i → lr[i]? = some r → l[i]? = some h → SeesR mbS w r.v h.got
theorem CpH.new {w w1 : World} {v : Value} {l : List Hf} {lr : List Hr} (h1 : ∀ (i : Nat) (r : Hr) (h : Hf), lr[i]? = some r → l[i]? = some h → Nums6 r h ∧ SeesR mbS w r.v h.got) (hl : lr.length = l.length) (ho : OwnR hrS 62 w w1 v lr) : CpH w w1 v 0 l lr :=
 ⟨ho.1, ho.2, hl, fun i r h hr hh => (h1 i r h hr hh).1, fun i r h hi => absurd hi (by omega), fun i r hi => absurd hi (by omega), fun i j r r' hi => absurd hi (by omega), fun i r h _ hr hh => (h1 i r h hr hh).2⟩
theorem CpH.done_ {w wr : World} {v : Value} {l : List Hf} {lr : List Hr} (h : CpH w wr v l.length l lr) : OwnHs w wr v lr l :=
 ⟨⟨h.row, h.bel⟩, h.len, fun i r x hr hx => ⟨h.num i r x hr hx, h.done i r x (List.getElem?_eq_some_iff.1 hx).1 hr hx⟩, fun i r hr => h.far i r (by rw [← h.len]; exact (List.getElem?_eq_some_iff.1 hr).1) hr, fun i j r r' hne hr hr' => h.apart i j r r' (by rw [← h.len]; exact (List.getElem?_eq_some_iff.1 hr).1) (by rw [← h.len]; exact (List.getElem?_eq_some_iff.1 hr').1) hne hr hr'⟩
theorem CpH.step {w wr w2 : World} {g n c k : Nat} {l : List Hf} {lr : List Hr} {r : Hr} {h : Hf} {A : Option Addr} {m d : Nat} (H : CpH w wr (.slice (some ⟨g, 0, none⟩) n c) k l lr) (hg : g < wr.heap.size) (hr : lr[k]? = some r) (hh : l[k]? = some h) (ho : OwnR mbS 97 wr w2 (.slice A m d) h.got) :
  CpH w (w2.setCell ⟨g, k * 6 + 5, none⟩ (.slice A m d)) (.slice (some ⟨g, 0, none⟩) n c) (k + 1) l (lr.set k (r.with A m d)) := by
 have hwg : w.heap.size ≤ g := (H.row.lt rfl).1
 have hB2 := ho.2
 have hkl := (List.getElem?_eq_some_iff.1 hr).1
 have hnew : ∀ b, (Value.slice A m d).ownBlock = some b → wr.heap.size ≤ b := fun b hb => (ho.lt hb).1
 have hget : ∀ (i : Nat) (r' : Hr), (lr.set k (r.with A m d))[i]? = some r' → (i = k ∧ r' = r.with A m d) ∨ (i ≠ k ∧ lr[i]? = some r') := fun i r' hx => by
  by_cases e : i = k
  ·subst e
   rw [List.getElem?_set_self hkl] at hx
   injection hx with hx
   exact .inl ⟨rfl, hx.symm⟩
  ·rw [List.getElem?_set_ne (fun e' => e e'.symm)] at hx
   exact .inr ⟨e, hx⟩
 have hkeep : ∀ {v : Value} {t : List Mb}, OwnAt mbS 97 w.heap.size w2 v t → (∀ b, v.ownBlock = some b → b ≠ g) → OwnAt mbS 97 w.heap.size (w2.setCell ⟨g, k * 6 + 5, none⟩ (.slice A m d)) v t := fun {v t} hv hne => by
  refine World.ownsRow.kept hv (row := some g) ⟨rfl, rfl, rfl, by simp, fun i _ hi => Below.heap_setCell w2 ⟨g, k * 6 + 5, none⟩ _ i (fun e => hi (by rw [e]))⟩ ?_
  cases hb : v.ownBlock with
  | none => exact .inl rfl
  | some b => exact .inr (fun e => hne b hb (by injection e))
 have hnewO : OwnAt mbS 97 w.heap.size w2 (.slice A m d) h.got := OwnAt.down (B := wr.heap.size) ho.1 H.bel.size
 refine ⟨own_put5 (H.row.later hB2) hr A m d, (H.bel.trans (hB2.mono H.bel.size)).setCell (p := ⟨g, k * 6 + 5, none⟩) hwg _, by rw [List.length_set]; exact H.len, fun i r' x hx hy => ?_, fun i r' x hi hx hy => ?_, fun i r' hi hx => ?_, fun i j r1 r2 hi hj hne h1 h2 => ?_, fun i r' x hi hx hy => ?_⟩
 ·rcases hget i r' hx with ⟨rfl, rfl⟩ | ⟨_, hx⟩
  ·exact H.num i r x hr hy
  ·exact H.num i r' x hx hy
 ·rcases hget i r' hx with ⟨rfl, rfl⟩ | ⟨e, hx⟩
  ·rw [hh] at hy
   injection hy with hy
   subst hy
   exact hkeep hnewO (fun b hb => by have := hnew b hb; omega)
  ·have hik : i < k := by omega
   exact hkeep ((H.done i r' x hik hx hy).later hB2) (fun b hb e => H.far i r' hik hx g rfl (by rw [hb, e]))
 ·rcases hget i r' hx with ⟨rfl, rfl⟩ | ⟨e, hx⟩
  ·intro b p q
   have h1 := hnew b q
   have h2 : g = b := by injection p
   omega
  ·exact H.far i r' (by omega) hx
 ·have hold : ∀ (i : Nat) (r' : Hr), i < k → lr[i]? = some r' → ∀ b, r'.v.ownBlock = some b → b < wr.heap.size := fun i r' hi hx b hb => by
   obtain ⟨y, hy⟩ : ∃ y, l[i]? = some y := ⟨_, List.getElem?_eq_getElem (by rw [← H.len]; exact (List.getElem?_eq_some_iff.1 hx).1)⟩
   exact ((H.done i r' y hi hx hy).lt hb).2
  rcases hget i r1 h1 with ⟨ei, er⟩ | ⟨e, g1⟩
  ·rcases hget j r2 h2 with ⟨ej, _⟩ | ⟨e', g2⟩
   ·exact absurd (ei.trans ej.symm) hne
   ·intro b p q
    rw [er] at p
    have h3 := hnew b p
    have h4 := hold j r2 (by omega) g2 b q
    omega
  ·rcases hget j r2 h2 with ⟨ej, er⟩ | ⟨e', g2⟩
   ·intro b p q
    rw [er] at q
    have h3 := hnew b q
    have h4 := hold i r1 (by omega) g1 b p
    omega
   ·exact H.apart i j r1 r2 (by omega) (by omega) hne g1 g2
 ·rcases hget i r' hx with ⟨rfl, _⟩ | ⟨e, hx⟩
  ·omega
  ·exact H.todo i r' x (by omega) hx hy
set_option maxRecDepth 100000 in
set_option maxHeartbeats 1600000 in
theorem copyHs_any (w : World) (v : Value) (l : List Hf) (h : SeesH w v l) (hl : FewH0 l) :
  Calls Tryz.prog 67 #[v] w (HalvesPost w l) := by
 obtain ⟨lr0, h1, h2, h3⟩ := h
 have HC := Lib.hid (cloneH w v lr0 h1 (by rw [h2]; exact hl.1))
 unfold CloneP at HC
 have HG := Lib.hid hl.2
 have hlen : l.length ≤ 1048576 := hl.1
 have H3 := Lib.hid h3
 obtain ⟨A0, c0, rfl, _⟩ := h1
 have HL2 := Lib.hid h2
 clear h3 h2
 go_enter Tryz.func67, Tryz.ntmps67
 go_wp2_with fail
 refine HC.out.mono ?_
 rintro e w1 ⟨v1, rfl, hO⟩
 have hCp := CpH.new H3.out HL2.out hO
 obtain ⟨A, c, rfl⟩ := OwnR.form hO
 rw [HL2.out] at hCp ⊢
 have HCp := Lib.hid hCp
 clear hO hCp HC H3
 go_wp2
 go_loopw [9] (fun i wr => ∃ (k : Nat) (lr : List Hr), k ≤ l.length ∧ i = .int .i64 k ∧ Hid (CpH w wr (.slice A l.length c) k l lr)) (fun i _ => (l.length + 1 : Nat) - (intOf i).toNat)
 case atStart => exact ⟨0, lr0, by omega, rfl, HCp.out⟩
 case round =>
  clear HCp
  obtain ⟨k, lr, hk, rfl, HR⟩ := hrel
  by_cases hkl : k < l.length
  ·have hh : l[k]? = some l[k] := List.getElem?_eq_getElem hkl
   have hr : lr[k]? = some (lr[k]'(by rw [HR.out.len]; exact hkl)) := List.getElem?_eq_getElem _
   have hgl := HG.out l[k] (List.getElem_mem hkl)
   have hsr := (HR.out.todo k _ _ (Nat.le_refl _) hr hh).later HR.out.bel
   obtain ⟨g, c', e, hg, _, hcell⟩ := (OwnR.sees (w0 := w) (t := 62) ⟨HR.out.row, HR.out.bel⟩).at hr
   injection e with e1 e2 e3
   subst e1; clear e2; subst e3
   have t5 : wr.cell? ⟨g, k * 6 + 5, none⟩ = some (lr[k]'(by rw [HR.out.len]; exact hkl)).v := hcell 5 _ rfl
   have HRr := Lib.hid hr
   have HHh := Lib.hid hh
   generalize lr[k]'(by rw [HR.out.len]; exact hkl) = r at HRr hsr t5
   generalize l[k] = y at HHh hsr hgl
   have hk0 : (0 : Int) ≤ (k : Int) := by omega
   have hk1 : (k : Int) < (l.length : Int) := by omega
   have HX := Lib.hid (cloneX wr _ y.got hsr hgl)
   unfold CloneP at HX
   have HGl := Lib.hid hg
   clear hh hr hcell hsr
   go_wp2_with fail
   refine HX.out.mono ?_
   rintro e w2 ⟨v2, rfl, hO2⟩
   obtain ⟨A2, d2, rfl⟩ := OwnR.form hO2
   have HS := Lib.hid (HR.out.step HGl.out HRr.out HHh.out hO2)
   have c5 := (hO2.2.cell (p := ⟨g, k * 6 + 5, none⟩) HGl.out).trans t5
   have f5 : w2.frozen? ⟨g, k * 6 + 5, none⟩ = false := by
    rcases HR.out.row.2 with ⟨e, _⟩ | ⟨g', cap, cur, e, hb, hh', _⟩
    ·cases e
    ·injection e with e1 _ _
     injection e1 with e1
     injection e1 with e1 _ _
     subst e1
     exact ((show Blk wr g 62 cur from hh').below hO2.2 HGl.out).frozen _
   clear HX t5 hO2 HR
   go_wp2
   exact ⟨⟨k + 1, _, by omega, by go_num, HS.out⟩, by simp [intOf]; omega⟩
  ·obtain rfl : k = l.length := by omega
   have HE := Lib.hid HR.out.done_
   go_wp2
   go_ret
   exact ⟨_, _, rfl, HE.out⟩
end Go.Proofs.YtckicpnnclbkpaaGreatDoor.hf

