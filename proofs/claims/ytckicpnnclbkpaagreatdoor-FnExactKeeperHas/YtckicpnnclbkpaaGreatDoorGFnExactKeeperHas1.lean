/-
  Merged texts: HasLaw, SHasK, IHasK, HfMark, HfHeld, HfLaw, LawK.
-/
import Derived.Test.YtckicpnnclbkpaaGreatDoorGFnExactKeeperOk37
import Derived.Test.YtckicpnnclbkpaaGreatDoorGFnExactKeeperOk9
import Derived.Test.YtckicpnnclbkpaaGreatDoorGFnExactKeeperOk38
import Derived.Test.YtckicpnnclbkpaaGreatDoorGFnExactKeeperOk41
import Derived.Test.YtckicpnnclbkpaaGreatDoorGFnExactKeeperOk19
import Derived.Test.YtckicpnnclbkpaaGreatDoorGFnExactKeeperOk6
namespace Go.Proofs.YtckicpnnclbkpaaGreatDoor.hf
open Go.ChangeShapes Go.WideShapes Go.ChangeAt Go.RowKit
open wd ow rl ok kp nb sl dc
def HasN (id : Int) (up : Bool) (s : ByteArray) (f : Int) (l : List Hf) (k : Kp) : Prop := (NodeOk id up s f l true ∧ Has id s k true) ∨ (NodeOk id up s f l false ∧ k = zeroK)
theorem hasN_one {id : Int} {up : Bool} {s : ByteArray} {f : Int} {l : List Hf} {k k' : Kp} (h : HasN id up s f l k) (h' : HasN id up s f l k') : k = k' := by
 rcases h with ⟨a, b⟩ | ⟨a, b⟩
 ·rcases h' with ⟨a', b'⟩ | ⟨a', b'⟩
  ·exact (ofK_one b b').1
  ·cases nodeOk_one a a'
 ·rcases h' with ⟨a', b'⟩ | ⟨a', b'⟩
  ·cases nodeOk_one a a'
  ·rw [b, b']
theorem ownK_of {B : Nat} {w W : World} {k : Kp} {a b c : Value} (h : Own3 B W k a b c) (hB : w.heap.size ≤ B) (hb : Below w.heap.size w W) : OwnK w W k a b c :=
 ⟨⟨h.held.down hB, hb⟩, ⟨h.marks.down hB, hb⟩, ⟨h.inbox.down hB, hb⟩, h.hm, h.hi, h.mi⟩
theorem own3_on {B : Nat} {W W' : World} {k : Kp} {a b c : Value} (h : Own3 B W k a b c) (hW : Below W.heap.size W W') : Own3 B W' k a b c := ⟨h.held.later hW, h.marks.later hW, h.inbox.later hW, h.hm, h.hi, h.mi⟩
theorem ownK_nil {w W : World} (hb : Below w.heap.size w W) : OwnK w W zeroK (.slice none 0 0) (.slice none 0 0) (.slice none 0 0) :=
 ⟨⟨World.ownsRow_nil _ _ _ _, hb⟩, ⟨World.ownsRow_nil _ _ _ _, hb⟩, ⟨World.ownsRow_nil _ _ _ _, hb⟩, (fun g h => by cases h), (fun g h => by cases h), (fun g h => by cases h)⟩
theorem own3_put6 {B R : Nat} {W : World} {k : Kp} {a b c : Value} (h : Own3 B W k a b c) (hR : R < B) (x1 x2 x3 x4 x5 x6 : Value) : Own3 B (put6 W R x1 x2 x3 x4 x5 x6) k a b c :=
 ⟨OwnAt.put6 h.held hR _ _ _ _ _ _, OwnAt.put6 h.marks hR _ _ _ _ _ _, OwnAt.put6 h.inbox hR _ _ _ _ _ _, h.hm, h.hi, h.mi⟩
def KHP (w : World) (id : Int) (up : Bool) (s : ByteArray) (f : Int) (l : List Hf) (e : Ending) (w' : World) : Prop :=
 ∃ (k : Kp) (a b c : Value), HasN id up s f l k ∧ e = .returned (kpV k.id k.time k.next a b c) ∧ (k = zeroK ∨ Sz 14 k) ∧ OwnK w w' k a b c
def KHI (w : World) (id : Int) (up : Bool) (s : ByteArray) (f : Int) (l : List Hf) (e : Ending) (w' : World) : Prop :=
 ∃ (k : Kp) (a b c : Value), HasN id up s f l k ∧ e = .returned (kpV k.id k.time k.next a b c) ∧ OwnK w w' k a b c
end Go.Proofs.YtckicpnnclbkpaaGreatDoor.hf

namespace Go.Proofs.YtckicpnnclbkpaaGreatDoor.hf
open Go.ChangeShapes Go.WideShapes Go.ChangeAt Go.RowKit
open wd ow rl ok kp nb sl dc
set_option maxRecDepth 100000 in
set_option maxHeartbeats 1600000 in
theorem shasK_any (w : World) (id : Int) (up : Bool) (s : ByteArray) (f : Int) (g : Value) (l : List Hf) (hs : s.size ≤ 1048576) (h : SeesH w g l) (hl : FewH l) :
  Calls Tryz.prog 13 #[nodeV id up s f g] w (KHP w id up s f l) := by
 obtain ⟨A, c, rfl⟩ := h.form
 have K0 := Lib.hid ((Blk.new w 32 (nodeC id up s f (.slice A l.length c))).alloc (.cells #[.int .i64 0, .int .i64 0, .int .i64 0, .slice none 0 0, .slice none 0 0, .slice none 0 0] 39))
 have R0 := Blk.new (w.alloc (.cells (nodeC id up s f (.slice A l.length c)) 32)) 39 #[.int .i64 0, .int .i64 0, .int .i64 0, .slice none 0 0, .slice none 0 0, .slice none 0 0]
 simp only [World.size_alloc] at R0
 have HR0 := Lib.hid R0
 have HB0 := Lib.hid (((Below.refl w.heap.size w).alloc (Nat.le_refl _) (.cells (nodeC id up s f (.slice A l.length c)) 32)).alloc (by simp) (.cells #[.int .i64 0, .int .i64 0, .int .i64 0, .slice none 0 0, .slice none 0 0, .slice none 0 0] 39))
 have hz : w.heap.size + 2 ≤ ((w.alloc (.cells (nodeC id up s f (.slice A l.length c)) 32)).alloc (.cells #[.int .i64 0, .int .i64 0, .int .i64 0, .slice none 0 0, .slice none 0 0, .slice none 0 0] 39)).heap.size := by simp
 have HN := Lib.hid (fun V (hV : Below w.heap.size w V) => snode_any V id up s f _ l hs (h.later hV) hl)
 unfold OkPost at HN
 have HH := Lib.hid (fun V => shas_any V id up s f A l.length c (by omega))
 unfold HasPost at HH
 clear h hl R0
 go_enter Tryz.func13, Tryz.ntmps13
 go_wp2_with fail
 generalize (w.alloc (.cells (nodeC id up s f (.slice A l.length c)) 32)).alloc (.cells #[.int .i64 0, .int .i64 0, .int .i64 0, .slice none 0 0, .slice none 0 0, .slice none 0 0] 39) = V at K0 HR0 HB0 hz ⊢
 refine (HN.out _ HB0.out).mono ?_
 rintro e w1 ⟨b, rfl, hN, B1⟩
 have HB1 := Lib.hid (HB0.out.trans (B1.mono HB0.out.size))
 have K1 := Lib.hid (K0.out.below B1 K0.out.lt)
 have R1 := Lib.hid (HR0.out.below B1 HR0.out.lt)
 have HZ := Lib.hid (Nat.le_trans hz B1.size)
 have HNo := Lib.hid hN
 clear B1 K0 HR0 HB0 HN hN hz
 cases b with
 | false =>
  obtain ⟨r0, r1, r2, r3, r4, r5, g0, g1, g2, g3, g4, g5⟩ := res_cells R1.out
  have HC := Lib.hid (put6_blk (a' := .int .i64 0) (b' := .int .i64 0) (c' := .int .i64 0) (d' := .slice none 0 0) (e' := .slice none 0 0) (f' := .slice none 0 0) R1.out)
  have HE := Lib.hid (put6_below (B := w.heap.size) (R := w.heap.size + 1) (Nat.le_succ _) HB1.out (.int .i64 0) (.int .i64 0) (.int .i64 0) (.slice none 0 0) (.slice none 0 0) (.slice none 0 0))
  go_wp2
  obtain ⟨x0, x1, x2, x3, x4, x5, _⟩ := res_cells HC.out
  refine bodyPost_ret (v := .agg #[.int .i64 0, .int .i64 0, .int .i64 0, .slice none 0 0, .slice none 0 0, .slice none 0 0]) (by simp [results, Tryz.results13, go_sem, x0, x1, x2, x3, x4, x5]) rfl ⟨zeroK, _, _, _, .inr ⟨HNo.out, rfl⟩, rfl, .inl rfl, ownK_nil HE.out⟩
 | true =>
  obtain ⟨n0, n1, n2, n3, n4, _⟩ := five5 K1.out
  go_wp2_with fail
  refine (HH.out _).mono ?_
  rintro e w2 ⟨k, b2, vh, vm, vi, rfl, hd, hsz, o⟩
  have hb2 : b2 = true := by
   rcases HNo.out with ⟨_, _, _, k', hk'⟩ | ⟨h, _⟩
   ·exact (ofK_one hd hk').2
   ·cases h
  subst hb2
  have HF := Lib.hid (show HasN id up s f l k from .inl ⟨HNo.out, hd⟩)
  have HSz := Lib.hid hsz
  obtain ⟨A3, s3, rfl⟩ := OwnR.form o.held
  obtain ⟨M3, t3, rfl⟩ := OwnR.form o.marks
  obtain ⟨I3, u3, rfl⟩ := OwnR.form o.inbox
  have hA := (Below.refl w2.heap.size w2).alloc (Nat.le_refl _) (.cells #[.int .i64 k.id, .int .i64 k.time, .int .i64 k.next, .slice A3 k.held.length s3, .slice M3 k.marks.length t3, .slice I3 k.inbox.length u3] 39)
  have BA := o.bel.trans (hA.mono o.bel.size)
  have HB2 := Lib.hid (HB1.out.trans (BA.mono HB1.out.size))
  have R2 := Lib.hid (R1.out.below BA R1.out.lt)
  have KB := Lib.hid (Blk.new w2 39 #[.int .i64 k.id, .int .i64 k.time, .int .i64 k.next, .slice A3 k.held.length s3, .slice M3 k.marks.length t3, .slice I3 k.inbox.length u3])
  have O2 := Lib.hid (own3_on o.three hA)
  clear hd hsz o hA BA K1 R1 HB1 n0 n1 n2 n3 n4 HH
  go_upto_region 4 with (fail)
  generalize w2.alloc (.cells #[.int .i64 k.id, .int .i64 k.time, .int .i64 k.next, .slice A3 k.held.length s3, .slice M3 k.marks.length t3, .slice I3 k.inbox.length u3] 39) = W at KB R2 O2 HB2 ⊢
  generalize w2.heap.size = rb at KB ⊢
  obtain ⟨p0, p1, p2, p3, p4, p5, _⟩ := res_cells KB.out
  obtain ⟨r0, r1, r2, r3, r4, r5, g0, g1, g2, g3, g4, g5⟩ := res_cells R2.out
  have HC := Lib.hid (put6_blk (a' := .int .i64 k.id) (b' := .int .i64 k.time) (c' := .int .i64 k.next) (d' := .slice A3 k.held.length s3) (e' := .slice M3 k.marks.length t3) (f' := .slice I3 k.inbox.length u3) R2.out)
  have HE := Lib.hid (put6_below (B := w.heap.size) (R := w.heap.size + 1) (Nat.le_succ _) HB2.out (.int .i64 k.id) (.int .i64 k.time) (.int .i64 k.next) (.slice A3 k.held.length s3) (.slice M3 k.marks.length t3) (.slice I3 k.inbox.length u3))
  have HA := Lib.hid (own3_put6 O2.out (R := w.heap.size + 1) (by have := HZ.out; omega) (.int .i64 k.id) (.int .i64 k.time) (.int .i64 k.next) (.slice A3 k.held.length s3) (.slice M3 k.marks.length t3) (.slice I3 k.inbox.length u3))
  go_wp2
  obtain ⟨x0, x1, x2, x3, x4, x5, _⟩ := res_cells HC.out
  refine bodyPost_ret (v := .agg #[.int .i64 k.id, .int .i64 k.time, .int .i64 k.next, .slice A3 k.held.length s3, .slice M3 k.marks.length t3, .slice I3 k.inbox.length u3]) (by simp [results, Tryz.results13, go_sem, x0, x1, x2, x3, x4, x5]) rfl ⟨k, _, _, _, HF.out, rfl, .inr HSz.out, ownK_of HA.out (by have := HZ.out; omega) HE.out⟩
end Go.Proofs.YtckicpnnclbkpaaGreatDoor.hf

namespace Go.Proofs.YtckicpnnclbkpaaGreatDoor.hf
open Go.ChangeShapes Go.WideShapes Go.ChangeAt Go.RowKit
open wd ow rl ok kp nb sl dc
set_option maxRecDepth 100000 in
set_option maxHeartbeats 1600000 in
theorem ihasK_any (w : World) (id : Int) (up : Bool) (s : ByteArray) (f : Int) (g : Value) (l : List Hf) (hs : s.size ≤ 1048576) (h : SeesH w g l) (hl : FewH l) (hft : FitsH w g l) (hE : sh.Env w) :
  Calls Tryz.prog 14 #[nodeV id up s f g] w (KHI w id up s f l) := by
 obtain ⟨A, c, rfl⟩ := h.form
 have K0 := Lib.hid ((Blk.new w 32 (nodeC id up s f (.slice A l.length c))).alloc (.cells #[.int .i64 0, .int .i64 0, .int .i64 0, .slice none 0 0, .slice none 0 0, .slice none 0 0] 39))
 have R0 := Blk.new (w.alloc (.cells (nodeC id up s f (.slice A l.length c)) 32)) 39 #[.int .i64 0, .int .i64 0, .int .i64 0, .slice none 0 0, .slice none 0 0, .slice none 0 0]
 simp only [World.size_alloc] at R0
 have HR0 := Lib.hid R0
 have HB0 := Lib.hid (((Below.refl w.heap.size w).alloc (Nat.le_refl _) (.cells (nodeC id up s f (.slice A l.length c)) 32)).alloc (by simp) (.cells #[.int .i64 0, .int .i64 0, .int .i64 0, .slice none 0 0, .slice none 0 0, .slice none 0 0] 39))
 have hz : w.heap.size + 2 ≤ ((w.alloc (.cells (nodeC id up s f (.slice A l.length c)) 32)).alloc (.cells #[.int .i64 0, .int .i64 0, .int .i64 0, .slice none 0 0, .slice none 0 0, .slice none 0 0] 39)).heap.size := by simp
 have HN := Lib.hid (fun V (hV : Below w.heap.size w V) => open_h V id up s f _ l hs (h.later hV) hl (hft.later h hV) (hE.later hV))
 unfold OpenP at HN
 clear h hl R0 hft hE
 go_enter Tryz.func14, Tryz.ntmps14
 go_wp2_with fail
 generalize (w.alloc (.cells (nodeC id up s f (.slice A l.length c)) 32)).alloc (.cells #[.int .i64 0, .int .i64 0, .int .i64 0, .slice none 0 0, .slice none 0 0, .slice none 0 0] 39) = V at K0 HR0 HB0 hz ⊢
 refine (HN.out _ HB0.out).mono ?_
 rintro e w1 ⟨p, b, rfl, hN, B1, hY⟩
 have HB1 := Lib.hid (HB0.out.trans (B1.mono HB0.out.size))
 have R1 := Lib.hid (HR0.out.below B1 HR0.out.lt)
 have HZ := Lib.hid hz
 have HNo := Lib.hid hN
 cases b with
 | false =>
  clear B1 K0 HR0 HB0 HN hN hz hY
  obtain ⟨r0, r1, r2, r3, r4, r5, g0, g1, g2, g3, g4, g5⟩ := res_cells R1.out
  have HC := Lib.hid (put6_blk (a' := .int .i64 0) (b' := .int .i64 0) (c' := .int .i64 0) (d' := .slice none 0 0) (e' := .slice none 0 0) (f' := .slice none 0 0) R1.out)
  have HE := Lib.hid (put6_below (B := w.heap.size) (R := w.heap.size + 1) (Nat.le_succ _) HB1.out (.int .i64 0) (.int .i64 0) (.int .i64 0) (.slice none 0 0) (.slice none 0 0) (.slice none 0 0))
  go_wp2
  obtain ⟨x0, x1, x2, x3, x4, x5, _⟩ := res_cells HC.out
  refine bodyPost_ret (v := .agg #[.int .i64 0, .int .i64 0, .int .i64 0, .slice none 0 0, .slice none 0 0, .slice none 0 0]) (by simp [results, Tryz.results14, go_sem, x0, x1, x2, x3, x4, x5]) rfl ⟨zeroK, _, _, _, .inr ⟨HNo.out, rfl⟩, rfl, ownK_nil HE.out⟩
 | true =>
  obtain ⟨nb, k, vh, vm, vi, lr, rfl, hd, hn⟩ := hY rfl
  have HF := Lib.hid (show HasN id up s f l k from .inl ⟨HNo.out, hd⟩)
  obtain ⟨A3, s3, rfl⟩ := OwnAt.form hn.keep.held
  obtain ⟨M3, t3, rfl⟩ := OwnAt.form hn.keep.marks
  obtain ⟨I3, u3, rfl⟩ := OwnAt.form hn.keep.inbox
  obtain ⟨cs, hb, hcs, _, _, h8, _⟩ := hn.ring
  have q2 := (hb.cell 2).trans (h8 2 (by omega))
  have q3 := (hb.cell 3).trans (h8 3 (by omega))
  have q4 := (hb.cell 4).trans (h8 4 (by omega))
  have q5 := (hb.cell 5).trans (h8 5 (by omega))
  have q6 := (hb.cell 6).trans (h8 6 (by omega))
  have q7 := (hb.cell 7).trans (h8 7 (by omega))
  simp only [List.getElem?_cons_zero, List.getElem?_cons_succ] at q2 q3 q4 q5 q6 q7
  have O2 := Lib.hid hn.keep
  clear B1 K0 HR0 HB0 HN hN hz hY hn hd hb h8 hcs
  obtain ⟨r0, r1, r2, r3, r4, r5, g0, g1, g2, g3, g4, g5⟩ := res_cells R1.out
  have HC := Lib.hid (put6_blk (a' := .int .i64 k.id) (b' := .int .i64 k.time) (c' := .int .i64 k.next) (d' := .slice A3 k.held.length s3) (e' := .slice M3 k.marks.length t3) (f' := .slice I3 k.inbox.length u3) R1.out)
  have HE := Lib.hid (put6_below (B := w.heap.size) (R := w.heap.size + 1) (Nat.le_succ _) HB1.out (.int .i64 k.id) (.int .i64 k.time) (.int .i64 k.next) (.slice A3 k.held.length s3) (.slice M3 k.marks.length t3) (.slice I3 k.inbox.length u3))
  have HA := Lib.hid (own3_put6 O2.out (R := w.heap.size + 1) (by have := HZ.out; omega) (.int .i64 k.id) (.int .i64 k.time) (.int .i64 k.next) (.slice A3 k.held.length s3) (.slice M3 k.marks.length t3) (.slice I3 k.inbox.length u3))
  go_wp2
  obtain ⟨x0, x1, x2, x3, x4, x5, _⟩ := res_cells HC.out
  refine bodyPost_ret (v := .agg #[.int .i64 k.id, .int .i64 k.time, .int .i64 k.next, .slice A3 k.held.length s3, .slice M3 k.marks.length t3, .slice I3 k.inbox.length u3]) (by simp [results, Tryz.results14, go_sem, x0, x1, x2, x3, x4, x5]) rfl ⟨k, _, _, _, HF.out, rfl, ownK_of HA.out (by have := HZ.out; omega) HE.out⟩
end Go.Proofs.YtckicpnnclbkpaaGreatDoor.hf

namespace Go.Proofs.YtckicpnnclbkpaaGreatDoor.hf
open Go.ChangeShapes Go.WideShapes Go.ChangeAt Go.RowKit
open wd ow rl ok kp sl
def mbM (x : Int) : Mb := (x, mt (x + 1).toNat)
def mbMs (x : Int) (n : Nat) : List Mb := (List.range n).map fun i : Nat => mbM (x + 2 * i)
theorem mbMs_len (x : Int) (n : Nat) : (mbMs x n).length = n := by simp [mbMs]
theorem mbMs_at {x : Int} {n i : Nat} (h : i < n) : (mbMs x n)[i]? = some (mbM (x + 2 * i)) := by simp [mbMs, h]
def MarkedB (w : World) (v : Value) (B n : Nat) (x : Int) (e : Ending) (w' : World) : Prop := e = .returned (.int .i64 (x + 2 * n)) ∧ OwnAt mbS 97 B w' v (mbMs x n) ∧ w.grownBy w' v.ownBlock
set_option maxRecDepth 100000 in
set_option maxHeartbeats 1600000 in
theorem markB_any {w : World} {v : Value} {B : Nat} {l : List Mb} (h : OwnAt mbS 97 B w v l) (x : Int) (hx : 1 ≤ x) (hn : x + 2 * l.length < 100000000) :
  Calls Tryz.prog 73 #[v, .int .i64 x] w (MarkedB w v B l.length x) := by
 obtain ⟨n, hN⟩ : ∃ n, n = l.length := ⟨_, rfl⟩
 rw [← hN] at hn ⊢
 rcases h.2 with ⟨rfl, h0⟩ | ⟨g, cap, cur, rfl, hb, hh, hnc, hm, hs, _⟩
 ·obtain rfl : n = 0 := by omega
  clear h h0 hN
  go_enter Tryz.func73, Tryz.ntmps73
  go_wp2
  go_loop [1, 5] (fun a i => i = .int .i64 0 ∧ a = .int .i64 x) (fun _ _ => 0)
  case atStart => exact ⟨rfl, rfl⟩
  case round =>
   obtain ⟨rfl, rfl⟩ := hrel
   go_wp2
   go_ret
   exact ⟨by simp, World.ownsRow_nil _ _ _ _, grown_refl _ _⟩
 ·rw [← hN] at hnc ⊢
  have HR := Lib.hid (show Fill mbS 97 g cap (mbMs x n) 0 w from ⟨cur, hh, hs, fun i y hi => absurd hi (by omega)⟩)
  have HG := Lib.hid hb
  have hm' : cap ≤ 9223372036854775807 := hm
  have HM := Lib.hid hm
  clear h hh hs hb hN hm
  go_enter Tryz.func73, Tryz.ntmps73
  go_wp2
  go_loopw [1, 5] (fun a i wr => ∃ (j : Nat) (y : Int), j ≤ n ∧ i = .int .i64 j ∧ a = .int .i64 y ∧ Hid (y = x + 2 * j) ∧ 1 ≤ y ∧ y + 2 * (n - j : Nat) < 100000000 ∧ Hid (Fill mbS 97 g cap (mbMs x n) j wr) ∧ Hid (w.grownBy wr (some g))) (fun _ i _ => (n + 1 : Nat) - (intOf i).toNat)
  case atStart => exact ⟨0, x, by omega, rfl, rfl, by show x = x + 2 * ((0 : Nat) : Int); omega, hx, by omega, HR.out, grown_refl _ _⟩
  case round =>
   obtain ⟨j, y, hj, rfl, rfl, HY, y0, y1, HF, HW⟩ := hrel
   clear HR
   by_cases hjn : j < n
   ·have hP0 := FillP.of HF.out
    have ha : (mbMs x n)[j]? = some (mbM y) := by rw [mbMs_at hjn, HY.out]
    have hjc : j < cap := by omega
    have hP1 := Lib.hid (hP0.set (m := 0) hjc (by decide) ha (u := .int .i64 y) rfl)
    have hW1 := Lib.hid (grown_put HW.out (j * 2) (.int .i64 y))
    obtain ⟨⟨x0, c0⟩, f0⟩ := hP0.cell hjc (j := 0) (by decide)
    change wr.cell? ⟨g, j * 2, none⟩ = _ at c0
    change wr.frozen? ⟨g, j * 2, none⟩ = _ at f0
    have HA := Lib.hid ha
    have hj1 : (j : Int) < (n : Int) := by omega
    clear hP0 ha
    go_wp2_with fail
    refine (mark_int (y + 1) (by omega) (by omega) _).mono ?_
    rintro e w2 ⟨rfl, hB2⟩
    have hP5 := hP1.out.later hB2
    have R := Lib.hid (FillP.done (hP5.set (m := 1) hjc (by decide) HA.out (u := .string (mt (y + 1).toNat)) rfl))
    have HW5 := Lib.hid (grown_put (grown_on hW1.out hB2) (j * 2 + 1) (.string (mt (y + 1).toNat)))
    have HY2 := Lib.hid (show y + 1 + 1 = x + 2 * ((j + 1 : Nat) : Int) by have := HY.out; omega)
    obtain ⟨⟨x4, c4⟩, f4⟩ := hP5.cell hjc (j := 1) (by decide)
    change w2.cell? ⟨g, j * 2 + 1, none⟩ = _ at c4
    change w2.frozen? ⟨g, j * 2 + 1, none⟩ = _ at f4
    clear hP5 hP1 hW1 hB2 HF HW c0 f0 HA
    generalize mt (y + 1).toNat = txt at R HW5 ⊢
    go_wp2
    go_roundw
    case rel => exact ⟨j + 1, y + 1 + 1, by omega, by go_num, rfl, HY2.out, by omega, by omega, R.out, HW5.out⟩
    case measure => simp [intOf]; omega
   ·obtain rfl : j = n := by omega
    have R := Lib.hid (Fill.ownAt (B := B) (l := mbMs x j) (by rw [mbMs_len]; exact HF.out) HG.out (by rw [mbMs_len]; exact hnc) HM.out)
    rw [mbMs_len] at R
    go_wp2
    go_ret
    exact ⟨ow.ret_int HY.out, R.out, HW.out⟩
def hfM (x : Int) (n : Nat) : Hf := ⟨x, x + 1, x + 1 + 1, x + 1 + 1 + 1, x + 1 + 1 + 1 + 1, mbMs (x + 1 + 1 + 1 + 1 + 1) n⟩
def hfMs (x : Int) : List Hf → List Hf
 | [] => []
 | h :: l => hfM x h.got.length :: hfMs (x + 5 + 2 * h.got.length) l
theorem hfMs_len : ∀ (l : List Hf) (x : Int), (hfMs x l).length = l.length
 | [], _ => rfl
 | h :: l, x => by simp [hfMs, hfMs_len l]
theorem hfMs_at : ∀ {l : List Hf} {k : Nat} {h : Hf} {x : Int}, l[k]? = some h → (hfMs x l)[k]? = some (hfM (x + 5 * k + 2 * gotN (l.take k)) h.got.length)
 | [], _, _, _, hh => by simp at hh
 | a :: l, 0, h, x, hh => by simp at hh; subst hh; simp [hfMs, gotN]
 | a :: l, k + 1, h, x, hh => by
  simp only [List.getElem?_cons_succ] at hh
  have := hfMs_at (x := x + 5 + 2 * a.got.length) hh
  simp only [hfMs, List.getElem?_cons_succ, List.take_succ_cons, gotN]
  rw [this]
  congr 2
  omega
theorem gotN_le : ∀ (l : List Hf) (k : Nat), gotN (l.take k) ≤ gotN l
 | [], k => by simp [gotN]
 | a :: l, 0 => by simp [gotN]
 | a :: l, k + 1 => by have := gotN_le l k; simp only [List.take_succ_cons, gotN]; omega
section
variable {α : Type} {S : Shape α} {t : TypeId} {B g n c : Nat} {w : World} {lr : List α} {k : Nat} {r r' : α}
theorem own_blk (h : OwnAt S t B w (.slice (some ⟨g, 0, none⟩) n c) lr) : ∃ cur, Blk w g t cur ∧ cur.size = c * S.n ∧ lr.length ≤ c ∧ c ≤ maxLen ∧ B ≤ g ∧ ∀ i y, lr[i]? = some y → ∀ j v, (S.f y)[j]? = some v → cur[i * S.n + j]? = some v := by
 rcases h.2 with ⟨e, _⟩ | ⟨g', cap, cur, e, hb, hh', hn, hmm, hs, ht⟩
 ·cases e
 ·injection e with e1 e2 e3
  injection e1 with e1
  injection e1 with e1 _ _
  subst e1; subst e3; subst e2
  refine ⟨cur, hh', hs, hn, hmm, hb, fun i y hy j v hv => ?_⟩
  have hj : j < S.n := by have := (List.getElem?_eq_some_iff.1 hv).1; rwa [S.len] at this
  have hi' := (List.getElem?_eq_some_iff.1 hy).1
  have hf := flat_at S.len lr i y hy j hj
  rw [hv] at hf
  have h9 : (cur.toList.take (lr.length * S.n))[i * S.n + j]? = some v := by rw [show cur.toList.take (lr.length * S.n) = lr.flatMap S.f from ht]; exact hf
  have hlt : (i + 1) * S.n ≤ lr.length * S.n := Nat.mul_le_mul_right _ hi'
  rw [Nat.succ_mul] at hlt
  rw [List.getElem?_take_of_lt (by omega)] at h9
  simpa using h9
theorem own_cell (h : OwnAt S t B w (.slice (some ⟨g, 0, none⟩) n c) lr) (hk : lr[k]? = some r) {j : Nat} {u : Value} (hu : (S.f r)[j]? = some u) : w.cell? ⟨g, k * S.n + j, none⟩ = some u ∧ w.frozen? ⟨g, k * S.n + j, none⟩ = false := by
 obtain ⟨cur, h1, _, _, _, _, h2⟩ := own_blk h
 exact ⟨by rw [h1.cell]; exact h2 k r hk j u hu, h1.frozen _⟩
theorem own_put (h : OwnAt S t B w (.slice (some ⟨g, 0, none⟩) n c) lr) (hk : lr[k]? = some r) {m : Nat} (hm : m < S.n) {u : Value} (hu : (S.f r')[m]? = some u) (ho : ∀ j, j ≠ m → (S.f r')[j]? = (S.f r)[j]?) :
  OwnAt S t B (w.setCell ⟨g, k * S.n + m, none⟩ u) (.slice (some ⟨g, 0, none⟩) n c) (lr.set k r') := by
 have hkl := (List.getElem?_eq_some_iff.1 hk).1
 obtain ⟨cur, h1, hs, hn, hmm, hb, hold⟩ := own_blk h
 have hnl : n = lr.length := by
  rcases h.2 with ⟨e, _⟩ | ⟨g', cap, cur', e, _⟩
  ·cases e
  ·injection e
 subst hnl
 have hF : Fill S t g c (lr.set k r') (lr.set k r').length (w.setCell ⟨g, k * S.n + m, none⟩ u) := by
  refine ⟨_, h1.put (k * S.n + m) u, by simpa using hs, fun i x hi hx j v hv => ?_⟩
  have hj : j < S.n := by have := (List.getElem?_eq_some_iff.1 hv).1; rwa [S.len] at this
  rw [Array.getElem?_setIfInBounds]
  by_cases hik : i = k
  ·subst hik
   rw [List.getElem?_set_self hkl] at hx
   injection hx with hx
   subst hx
   by_cases hjm : j = m
   ·subst hjm
    have hle : (i + 1) * S.n ≤ c * S.n := Nat.mul_le_mul_right _ (Nat.le_trans hkl hn)
    rw [Nat.succ_mul] at hle
    rw [if_pos rfl, if_pos (by omega)]
    rw [hu] at hv
    exact hv
   ·rw [if_neg (by omega)]
    rw [ho j hjm] at hv
    exact hold i r hk j v hv
  ·rw [List.getElem?_set_ne (fun e => hik e.symm)] at hx
   rw [if_neg (fun e => by
    rcases Nat.lt_or_ge i k with hlt | hge
    ·have := Nat.mul_le_mul_right S.n (show i + 1 ≤ k from hlt)
     rw [Nat.succ_mul] at this
     omega
    ·have := Nat.mul_le_mul_right S.n (show k + 1 ≤ i by omega)
     rw [Nat.succ_mul] at this
     omega)]
   exact hold i x hx j v hv
 have := Fill.ownAt (B := B) hF hb (by rw [List.length_set]; exact hn) hmm
 rw [List.length_set] at this
 exact this
end
abbrev five (W : World) (g k : Nat) (y : Int) : World := ((((W.setCell ⟨g, k * 6, none⟩ (.int .i64 y)).setCell ⟨g, k * 6 + 1, none⟩ (.int .i64 (y + 1))).setCell ⟨g, k * 6 + 2, none⟩ (.int .i64 (y + 1 + 1))).setCell ⟨g, k * 6 + 3, none⟩ (.int .i64 (y + 1 + 1 + 1))).setCell ⟨g, k * 6 + 4, none⟩ (.int .i64 (y + 1 + 1 + 1 + 1))
abbrev hrM (y : Int) (A : Option Addr) (m c : Nat) : Hr := ⟨y, y + 1, y + 1 + 1, y + 1 + 1 + 1, y + 1 + 1 + 1 + 1, A, m, c⟩
theorem five_own {B g n c k : Nat} {W : World} {lr : List Hr} {r : Hr} (h : OwnAt hrS 62 B W (.slice (some ⟨g, 0, none⟩) n c) lr) (hk : lr[k]? = some r) (y : Int) :
  OwnAt hrS 62 B (five W g k y) (.slice (some ⟨g, 0, none⟩) n c) (lr.set k (hrM y r.A r.m r.c)) := by
 have hkl := (List.getElem?_eq_some_iff.1 hk).1
 have nx : ∀ (a b : Hr) (m : Nat) (u : Value), (hrF b)[m]? = some u → (∀ j, j ≠ m → (hrF b)[j]? = (hrF a)[j]?) → m < 6 → ∀ {V : World}, OwnAt hrS 62 B V (.slice (some ⟨g, 0, none⟩) n c) (lr.set k a) → OwnAt hrS 62 B (V.setCell ⟨g, k * 6 + m, none⟩ u) (.slice (some ⟨g, 0, none⟩) n c) (lr.set k b) := fun a b m u h1 h2 h3 V hV => by
  have := own_put (S := hrS) (r' := b) hV (List.getElem?_set_self hkl) (m := m) h3 h1 h2
  rwa [List.set_set] at this
 have t0 : OwnAt hrS 62 B W (.slice (some ⟨g, 0, none⟩) n c) (lr.set k r) := by
  have e : lr.set k r = lr := by
   apply List.ext_getElem?
   intro i
   by_cases hi : i = k
   ·subst hi; rw [List.getElem?_set_self hkl, hk]
   ·rw [List.getElem?_set_ne (fun e => hi e.symm)]
  rw [e]; exact h
 have oth : ∀ {a b : List Value} {m : Nat}, a.length = 6 → b.length = 6 → (∀ j, j < 6 → j ≠ m → b[j]? = a[j]?) → ∀ j, j ≠ m → b[j]? = a[j]? := fun ha hb hh j hj => by
  by_cases h6 : j < 6
  ·exact hh j h6 hj
  ·rw [List.getElem?_eq_none (by omega), List.getElem?_eq_none (by omega)]
 have t1 := nx r ⟨y, r.n, r.t, r.u, r.z, r.A, r.m, r.c⟩ 0 (.int .i64 y) rfl (oth rfl rfl (fun j h6 hj => by match j, h6, hj with | 1, _, _ => rfl | 2, _, _ => rfl | 3, _, _ => rfl | 4, _, _ => rfl | 5, _, _ => rfl)) (by omega) t0
 have t2 := nx _ ⟨y, y + 1, r.t, r.u, r.z, r.A, r.m, r.c⟩ 1 (.int .i64 (y + 1)) rfl (oth rfl rfl (fun j h6 hj => by match j, h6, hj with | 0, _, _ => rfl | 2, _, _ => rfl | 3, _, _ => rfl | 4, _, _ => rfl | 5, _, _ => rfl)) (by omega) t1
 have t3 := nx _ ⟨y, y + 1, y + 1 + 1, r.u, r.z, r.A, r.m, r.c⟩ 2 (.int .i64 (y + 1 + 1)) rfl (oth rfl rfl (fun j h6 hj => by match j, h6, hj with | 0, _, _ => rfl | 1, _, _ => rfl | 3, _, _ => rfl | 4, _, _ => rfl | 5, _, _ => rfl)) (by omega) t2
 have t4 := nx _ ⟨y, y + 1, y + 1 + 1, y + 1 + 1 + 1, r.z, r.A, r.m, r.c⟩ 3 (.int .i64 (y + 1 + 1 + 1)) rfl (oth rfl rfl (fun j h6 hj => by match j, h6, hj with | 0, _, _ => rfl | 1, _, _ => rfl | 2, _, _ => rfl | 4, _, _ => rfl | 5, _, _ => rfl)) (by omega) t3
 have t5 := nx _ (hrM y r.A r.m r.c) 4 (.int .i64 (y + 1 + 1 + 1 + 1)) rfl (oth rfl rfl (fun j h6 hj => by match j, h6, hj with | 0, _, _ => rfl | 1, _, _ => rfl | 2, _, _ => rfl | 3, _, _ => rfl | 5, _, _ => rfl)) (by omega) t4
 exact t5
theorem five_grown (W : World) (g k : Nat) (y : Int) : W.grownBy (five W g k y) (some g) :=
 grown_put (grown_put (grown_put (grown_put (grown_put (grown_refl W _) _ _) _ _) _ _) _ _) _ _
structure MarkedH (w w' : World) (v : Value) (lr : List Hr) : Prop where
 os : w'.os = w.os
 tape : w'.tape = w.tape
 output : w'.output = w.output
 size : w.heap.size ≤ w'.heap.size
 block : ∀ k, k < w.heap.size → v.ownBlock ≠ some k → (∀ (i : Nat) (r : Hr), lr[i]? = some r → r.v.ownBlock ≠ some k) → w'.heap[k]? = w.heap[k]?
structure MkH (B : Nat) (w wr : World) (v : Value) (x : Int) (k : Nat) (l : List Hf) (lr lr' : List Hr) : Prop where
 row : OwnAt hrS 62 B wr v lr'
 len : lr'.length = lr.length
 place : ∀ (i : Nat) (r r' : Hr), lr[i]? = some r → lr'[i]? = some r' → r'.v = r.v
 num : ∀ (i : Nat) (r' : Hr) (h : Hf), i < k → lr'[i]? = some r' → (hfMs x l)[i]? = some h → Nums6 r' h
 done : ∀ (i : Nat) (r : Hr) (h : Hf), i < k → lr[i]? = some r → (hfMs x l)[i]? = some h → OwnAt mbS 97 B wr r.v h.got
 todo : ∀ (i : Nat) (r : Hr) (h : Hf), k ≤ i → lr[i]? = some r → l[i]? = some h → OwnAt mbS 97 B wr r.v h.got
 marked : MarkedH w wr v lr
theorem MkH.new {B : Nat} {w : World} {v : Value} {l : List Hf} {lr : List Hr} (H : OwnHAt B w v lr l) (x : Int) : MkH B w w v x 0 l lr lr :=
 ⟨H.row, rfl, fun i r r' h1 h2 => by rw [h1] at h2; injection h2 with h2; rw [h2], fun i r h hi => absurd hi (by omega), fun i r h hi => absurd hi (by omega), fun i r h _ hr hh => (H.got i r h hr hh).2, rfl, rfl, rfl, Nat.le_refl _, fun _ _ _ _ => rfl⟩
theorem MkH.done_ {B : Nat} {w wr : World} {v : Value} {x : Int} {l : List Hf} {lr lr' : List Hr} (M : MkH B w wr v x l.length l lr lr') (H : OwnHAt B w v lr l) : OwnHAt B wr v lr' (hfMs x l) := by
 have old : ∀ (i : Nat) (r' : Hr), lr'[i]? = some r' → ∃ r, lr[i]? = some r ∧ r'.v = r.v := fun i r' h => by
  have hi := (List.getElem?_eq_some_iff.1 h).1
  have hr : lr[i]? = some (lr[i]'(by rw [← M.len]; exact hi)) := List.getElem?_eq_getElem _
  exact ⟨_, hr, M.place i _ _ hr h⟩
 refine ⟨M.row, by rw [M.len, H.len, hfMs_len], fun i r' h hr hh => ?_, fun i r' hr => ?_, fun i j r1 r2 hne h1 h2 => ?_⟩
 ·have hi : i < l.length := by have := (List.getElem?_eq_some_iff.1 hh).1; rwa [hfMs_len] at this
  obtain ⟨r, g1, g2⟩ := old i r' hr
  exact ⟨M.num i r' h hi hr hh, by rw [g2]; exact M.done i r h hi g1 hh⟩
 ·obtain ⟨r, g1, g2⟩ := old i r' hr
  rw [g2]; exact H.far i r g1
 ·obtain ⟨ra, g1, g2⟩ := old i r1 h1
  obtain ⟨rb, g3, g4⟩ := old j r2 h2
  rw [g2, g4]; exact H.apart i j ra rb hne g1 g3
theorem MkH.step {B : Nat} {w wr w2 : World} {g n c k : Nat} {x y : Int} {l : List Hf} {lr lr' : List Hr} {r : Hr} {h : Hf} (M : MkH B w wr (.slice (some ⟨g, 0, none⟩) n c) x k l lr lr') (H : OwnHAt B w (.slice (some ⟨g, 0, none⟩) n c) lr l)
  (hr : lr[k]? = some r) (hh : l[k]? = some h) (hy : y = x + 5 * k + 2 * gotN (l.take k)) (hO : OwnAt mbS 97 B w2 r.v (mbMs (y + 1 + 1 + 1 + 1 + 1) h.got.length)) (hG : (five wr g k y).grownBy w2 r.v.ownBlock) :
  MkH B w w2 (.slice (some ⟨g, 0, none⟩) n c) x (k + 1) l lr (lr'.set k (hrM y r.A r.m r.c)) := by
 have hkl := (List.getElem?_eq_some_iff.1 hr).1
 have hkl' : k < lr'.length := by rw [M.len]; exact hkl
 have hr' : lr'[k]? = some (lr'[k]'hkl') := List.getElem?_eq_getElem hkl'
 have hp := M.place k _ _ hr hr'
 have h5 := five_grown wr g k y
 have row5 := five_own M.row hr' y
 generalize lr'[k]'hkl' = r' at hr' hp row5
 injection hp with p1 p2 p3
 rw [p1, p2, p3] at row5
 have hat := hfMs_at (x := x) hh
 rw [← hy] at hat
 have row2 := row5.same (W' := w2) (fun b hb => hG.block b (row5.lt hb).2 (fun e => H.far k r hr b hb e.symm))
 have keep : ∀ (i : Nat) (r0 : Hr) (t : List Mb), i ≠ k → lr[i]? = some r0 → OwnAt mbS 97 B wr r0.v t → OwnAt mbS 97 B w2 r0.v t := fun i r0 t hne h0 ho => by
  refine ho.same (fun b hb => ?_)
  have hlt := (ho.lt hb).2
  exact (hG.block b (Nat.lt_of_lt_of_le hlt h5.size) (fun e => H.apart i k r0 r hne h0 hr b hb e.symm)).trans (h5.block b hlt (fun e => H.far i r0 h0 b e.symm hb))
 have hget : ∀ (i : Nat) (r1 : Hr), (lr'.set k (hrM y r.A r.m r.c))[i]? = some r1 → (i = k ∧ r1 = hrM y r.A r.m r.c) ∨ (i ≠ k ∧ lr'[i]? = some r1) := fun i r1 hx => by
  by_cases e : i = k
  ·subst e
   rw [List.getElem?_set_self hkl'] at hx
   injection hx with hx
   exact .inl ⟨rfl, hx.symm⟩
  ·rw [List.getElem?_set_ne (fun e' => e e'.symm)] at hx
   exact .inr ⟨e, hx⟩
 refine ⟨row2, by rw [List.length_set]; exact M.len, fun i r0 r1 h0 h1 => ?_, fun i r1 h1 hi hx hy' => ?_, fun i r0 h1 hi hx hy' => ?_, fun i r0 h1 hi hx hy' => keep i r0 _ (by omega) hx (M.todo i r0 h1 (by omega) hx hy'), hG.os.trans (h5.os.trans M.marked.os), hG.tape.trans (h5.tape.trans M.marked.tape), hG.output.trans (h5.output.trans M.marked.output), Nat.le_trans M.marked.size (Nat.le_trans h5.size hG.size), fun b hb n1 n2 => ?_⟩
 ·rcases hget i r1 h1 with ⟨rfl, rfl⟩ | ⟨_, h1⟩
  ·rw [hr] at h0; injection h0 with h0; subst h0; rfl
  ·exact M.place i r0 r1 h0 h1
 ·rcases hget i r1 hx with ⟨rfl, rfl⟩ | ⟨e, hx⟩
  ·rw [hat] at hy'; injection hy' with hy'; subst hy'; exact ⟨rfl, rfl, rfl, rfl, rfl⟩
  ·exact M.num i r1 h1 (by omega) hx hy'
 ·by_cases e : i = k
  ·subst e
   rw [hat] at hy'; injection hy' with hy'; subst hy'
   rw [hr] at hx; injection hx with hx; subst hx
   exact hO
  ·exact keep i r0 _ e hx (M.done i r0 h1 (by omega) hx hy')
 ·have l1 : b < wr.heap.size := Nat.lt_of_lt_of_le hb M.marked.size
  exact (hG.block b (Nat.lt_of_lt_of_le l1 h5.size) (fun e => n2 k r hr e.symm)).trans ((h5.block b l1 (fun e => n1 e.symm)).trans (M.marked.block b hb n1 n2))
def hfN (x : Int) (l : List Hf) : Int := x + 5 * l.length + 2 * gotN l
def MarkedHP (w : World) (v : Value) (B : Nat) (x : Int) (l : List Hf) (lr : List Hr) (e : Ending) (w' : World) : Prop :=
 ∃ lr', e = .returned (.int .i64 (hfN x l)) ∧ OwnHAt B w' v lr' (hfMs x l) ∧ MarkedH w w' v lr
theorem FewT.mark {l : List Hf} (h : FewT l) : hfN 1 l < 100000000 := by unfold FewT at h; unfold hfN; omega
theorem OwnHAt.see_ {B : Nat} {w : World} {v : Value} {lr : List Hr} {l : List Hf} (h : OwnHAt B w v lr l) : SeesH w v l :=
 ⟨lr, h.row.sees, h.len, fun i r x hr hx => ⟨(h.got i r x hr hx).1, (h.got i r x hr hx).2.sees⟩⟩
set_option maxRecDepth 100000 in
set_option maxHeartbeats 1600000 in
theorem markHs_any {w : World} {v : Value} {B : Nat} {l : List Hf} {lr : List Hr} (H : OwnHAt B w v lr l) (x : Int) (hx : 1 ≤ x) (hn : hfN x l < 100000000) :
  Calls Tryz.prog 41 #[v, .int .i64 x] w (MarkedHP w v B x l lr) := by
 have HH := Lib.hid H
 have HN := Lib.hid (show x + 5 * l.length + 2 * gotN l < 100000000 from hn)
 obtain ⟨A, c, rfl⟩ := H.see_.form
 have M0 := Lib.hid (MkH.new H x)
 clear H hn
 go_enter Tryz.func41, Tryz.ntmps41
 go_wp2
 go_loopw [1, 5] (fun a i wr => ∃ (k : Nat) (y : Int) (lr' : List Hr), k ≤ l.length ∧ i = .int .i64 k ∧ a = .int .i64 y ∧ Hid (y = x + 5 * k + 2 * gotN (l.take k)) ∧ 1 ≤ y ∧ Hid (MkH B w wr (.slice A l.length c) x k l lr lr')) (fun _ i _ => (l.length + 1 : Nat) - (intOf i).toNat)
 case atStart => exact ⟨0, x, lr, by omega, rfl, rfl, by show x = _; simp [gotN], hx, M0.out⟩
 case round =>
  clear M0
  obtain ⟨k, y, lr', hk, rfl, rfl, HY, y0, HM⟩ := hrel
  by_cases hkl : k < l.length
  ·have hh : l[k]? = some l[k] := List.getElem?_eq_getElem hkl
   have hr : lr[k]? = some (lr[k]'(by rw [HH.out.len]; exact hkl)) := List.getElem?_eq_getElem _
   have hr' : lr'[k]? = some (lr'[k]'(by rw [HM.out.len, HH.out.len]; exact hkl)) := List.getElem?_eq_getElem _
   obtain ⟨g, c', e, hg, hq1, hq2⟩ := HM.out.row.sees.at hr'
   clear hq1 hq2
   injection e with e1 e2 e3
   subst e1; clear e2; subst e3
   have hp := HM.out.place k _ _ hr hr'
   have hgt := gotN_take hh
   have hgl := gotN_le l (k + 1)
   have HHh := Lib.hid hh
   have HRr := Lib.hid hr
   generalize l[k] = h at HHh hgt
   generalize lr[k]'(by rw [HH.out.len]; exact hkl) = r at HRr hp
   generalize lr'[k]'(by rw [HM.out.len, HH.out.len]; exact hkl) = r' at hr' hp
   have hb : y + 5 + 2 * (h.got.length : Int) < 100000000 := by have h1 := HY.out; have h2 := HN.out; omega
   have hlb : (l.length : Int) < 100000000 := by have := HN.out; omega
   have HY2 := Lib.hid (show y + 1 + 1 + 1 + 1 + 1 + 2 * (h.got.length : Int) = x + 5 * ((k + 1 : Nat) : Int) + 2 * (gotN (l.take (k + 1)) : Nat) by have h1 := HY.out; omega)
   clear hh hr hgt hgl
   obtain ⟨f', n', t', u', z', A', m', d'⟩ := r'
   obtain ⟨c0, f0⟩ := own_cell HM.out.row hr' (j := 0) rfl
   obtain ⟨c1, f1⟩ := own_cell HM.out.row hr' (j := 1) rfl
   obtain ⟨c2, f2⟩ := own_cell HM.out.row hr' (j := 2) rfl
   obtain ⟨c3, f3⟩ := own_cell HM.out.row hr' (j := 3) rfl
   obtain ⟨c4, f4⟩ := own_cell HM.out.row hr' (j := 4) rfl
   obtain ⟨c5, _⟩ := own_cell HM.out.row hr' (j := 5) rfl
   change wr.cell? ⟨g, k * 6, none⟩ = some (.int .i64 f') at c0
   change wr.frozen? ⟨g, k * 6, none⟩ = _ at f0
   change wr.cell? ⟨g, k * 6 + 1, none⟩ = some (.int .i64 n') at c1
   change wr.frozen? ⟨g, k * 6 + 1, none⟩ = _ at f1
   change wr.cell? ⟨g, k * 6 + 2, none⟩ = some (.int .i64 t') at c2
   change wr.frozen? ⟨g, k * 6 + 2, none⟩ = _ at f2
   change wr.cell? ⟨g, k * 6 + 3, none⟩ = some (.int .i64 u') at c3
   change wr.frozen? ⟨g, k * 6 + 3, none⟩ = _ at f3
   change wr.cell? ⟨g, k * 6 + 4, none⟩ = some (.int .i64 z') at c4
   change wr.frozen? ⟨g, k * 6 + 4, none⟩ = _ at f4
   change wr.cell? ⟨g, k * 6 + 5, none⟩ = some (.slice A' m' d') at c5
   have HO5 : Hid (OwnAt mbS 97 B (five wr g k y) (.slice A' m' d') h.got) := by
    have ho := HM.out.todo k r h (Nat.le_refl _) HRr.out HHh.out
    rw [← hp] at ho
    refine ho.same (fun b hb => (five_grown wr g k y).block b (ho.lt hb).2 (fun e => ?_))
    rw [show (⟨f', n', t', u', z', A', m', d'⟩ : Hr).v = r.v from hp] at hb
    exact HH.out.far k r HRr.out b e.symm hb
   have HS := Lib.hid (fun w2 (hO : OwnAt mbS 97 B w2 r.v (mbMs (y + 1 + 1 + 1 + 1 + 1) h.got.length)) (hG : (five wr g k y).grownBy w2 r.v.ownBlock) => HM.out.step HH.out HRr.out HHh.out HY.out hO hG)
   have HP := Lib.hid hp
   have hk1 : (k : Int) < (l.length : Int) := by omega
   clear hr' HM HRr hp
   go_wp2_with fail
   refine (markB_any HO5.out (y + 1 + 1 + 1 + 1 + 1) (by omega) (by omega)).mono ?_
   rintro e w2 ⟨rfl, hO2, hG2⟩
   have HS2 := Lib.hid (HS.out w2 (by rw [← HP.out]; exact hO2) (by rw [← HP.out]; exact hG2))
   clear hO2 hG2 HS HO5 HP c0 c1 c2 c3 c4 c5 f0 f1 f2 f3 f4
   go_wp2
   go_roundw
   case rel => exact ⟨k + 1, _, _, by omega, by go_num, rfl, HY2.out, by omega, HS2.out⟩
   case measure => simp [intOf]; omega
  ·obtain rfl : k = l.length := by omega
   have HY2 := Lib.hid (show y = hfN x l by have := HY.out; rwa [List.take_length] at this)
   go_wp2
   go_ret
   exact ⟨lr', ow.ret_int HY2.out, HM.out.done_ HH.out, HM.out.marked⟩
theorem MarkedH.from_ {w V w' : World} {v : Value} {lr : List Hr} (h : MarkedH V w' v lr) (hB : Below w.heap.size w V) : MarkedH w w' v lr :=
 ⟨h.os.trans hB.os, h.tape.trans hB.tape, h.output.trans hB.output, Nat.le_trans hB.size h.size, fun k hk n1 n2 => (h.block k (Nat.lt_of_lt_of_le hk hB.size) n1 n2).trans (hB.block k hk)⟩
set_option maxRecDepth 100000 in
set_option maxHeartbeats 1600000 in
theorem markNode_any {w : World} {v : Value} {B : Nat} {l : List Hf} {lr : List Hr} (id : Int) (up : Bool) (s : ByteArray) (f : Int) (H : OwnHAt B w v lr l) (x : Int) (hx : 1 ≤ x) (hn : hfN x l < 100000000) :
  Calls Tryz.prog 16 #[nodeV id up s f v, .int .i64 x] w (MarkedHP w v B x l lr) := by
 have BV := (Below.refl w.heap.size w).alloc (Nat.le_refl _) (.cells (nodeC id up s f v) 32)
 have HM := Lib.hid (markHs_any (H.later BV) x hx hn)
 unfold MarkedHP at HM
 have HB := Lib.hid BV
 clear H BV
 go_enter Tryz.func16, Tryz.ntmps16
 go_wp2_with fail
 generalize w.alloc (.cells (nodeC id up s f v) 32) = V at HM HB ⊢
 refine HM.out.mono ?_
 rintro e w1 ⟨lr', rfl, h1, h2⟩
 have H1 := Lib.hid h1
 have H2 := Lib.hid (h2.from_ HB.out)
 clear h1 h2 HM
 go_wp2
 go_ret
 exact ⟨lr', rfl, H1.out, H2.out⟩
end Go.Proofs.YtckicpnnclbkpaaGreatDoor.hf

namespace Go.Proofs.YtckicpnnclbkpaaGreatDoor.hf
open Go.ChangeShapes Go.WideShapes Go.ChangeAt Go.RowKit
open wd ow rl ok kp sl
end Go.Proofs.YtckicpnnclbkpaaGreatDoor.hf

namespace Go.Proofs.YtckicpnnclbkpaaGreatDoor.hf
open Go.ChangeShapes Go.WideShapes Go.ChangeAt Go.RowKit
open wd ow rl ok kp
structure Nd where
 id : Int
 up : Bool
 s : ByteArray
 f : Int
 l : List Hf
abbrev noN : Nd := ⟨0, false, ⟨#[]⟩, 0, []⟩
def NodeP (R : Nd → Prop) (w : World) (e : Ending) (w' : World) : Prop := ∃ (id : Int) (up : Bool) (s : ByteArray) (f : Int) (l : List Hf) (v : Value) (lr : List Hr), R ⟨id, up, s, f, l⟩ ∧ e = .returned (nodeV id up s f v) ∧ OwnHs w w' v lr l
def NodeS (R : Nd → Prop) (w : World) (e : Ending) (w' : World) : Prop := ∃ (id : Int) (up : Bool) (s : ByteArray) (f : Int) (l : List Hf) (v : Value), R ⟨id, up, s, f, l⟩ ∧ e = .returned (nodeV id up s f v) ∧ SeesH w' v l ∧ Below w.heap.size w w'
def FallR (id : Int) (up : Bool) (s : ByteArray) (f : Int) (l : List Hf) (k : Int) (n : Nd) : Prop := (NodeOk id up s f l true ∧ n = ⟨id, false, sh.fallS s f k, sh.fallF s f k, []⟩) ∨ (NodeOk id up s f l false ∧ n = noN)
def RiseR (id : Int) (up : Bool) (s : ByteArray) (f : Int) (l : List Hf) (n : Nd) : Prop := (NodeOk id up s f l true ∧ n = ⟨id, true, s, f, l⟩) ∨ (NodeOk id up s f l false ∧ n = noN)
def RgH (v : Value) (lr : List Hr) (lo hi : Nat) : Prop := (∀ b, v.ownBlock = some b → lo ≤ b ∧ b < hi) ∧ ∀ (i : Nat) (r : Hr), lr[i]? = some r → ∀ b, r.v.ownBlock = some b → lo ≤ b ∧ b < hi
section
variable {w w' : World} {v v' : Value} {lr lr' : List Hr} {l l' : List Hf} {B lo hi lo' hi' : Nat}
theorem OwnHAt.rg (h : OwnHAt B w v lr l) : RgH v lr B w.heap.size := by
 refine ⟨fun b hb => h.row.lt hb, fun i r hr b hb => ?_⟩
 have hi := (List.getElem?_eq_some_iff.1 hr).1
 obtain ⟨x, hx⟩ : ∃ x, l[i]? = some x := ⟨_, List.getElem?_eq_getElem (by rw [← h.len]; exact hi)⟩
 exact (h.got i r x hr hx).2.lt hb
theorem OwnHs.rg (h : OwnHs w w' v lr l) : RgH v lr w.heap.size w'.heap.size := h.at_.rg
theorem MarkedH.other (M : MarkedH w w' v lr) (G : RgH v lr lo hi) {b : Nat} (hb : b < w.heap.size) (hs : b < lo ∨ hi ≤ b) : w'.heap[b]? = w.heap[b]? :=
 M.block b hb (fun e => by have := G.1 b e; omega) (fun i r hr e => by have := G.2 i r hr b e; omega)
theorem MarkedH.below (M : MarkedH w w' v lr) (G : RgH v lr lo hi) (hB : B ≤ lo) (hw : B ≤ w.heap.size) : Below B w w' :=
 ⟨M.os, M.tape, M.output, M.size, fun b hb => M.other G (by omega) (.inl (by omega))⟩
theorem MarkedH.blk {r : Nat} {t : TypeId} {cs : Array Value} (M : MarkedH w w' v lr) (G : RgH v lr lo hi) (h : Blk w r t cs) (hs : r < lo ∨ hi ≤ r) : Blk w' r t cs := (M.other G h.lt hs).trans h
end
end Go.Proofs.YtckicpnnclbkpaaGreatDoor.hf

namespace Go.Proofs.YtckicpnnclbkpaaGreatDoor.kp
open Go.ChangeShapes Go.WideShapes Go.ChangeAt Go.RowKit
open wd ow rl ok nb
def Rg (a b c : Value) (lo hi : Nat) : Prop := ∀ g, a.ownBlock = some g ∨ b.ownBlock = some g ∨ c.ownBlock = some g → lo ≤ g ∧ g < hi
section
variable {B lo hi R : Nat} {w W W' : World} {k : Kp} {a b c a' b' c' : Value}
theorem OwnK.rg (h : OwnK w W k a b c) : Rg a b c w.heap.size W.heap.size := fun g hg => by
 rcases hg with hg | hg | hg
 ·exact h.held.lt hg
 ·exact h.marks.lt hg
 ·exact h.inbox.lt hg
theorem Own3.keep (h : Own3 B W k a b c) (hs : ∀ g, a.ownBlock = some g ∨ b.ownBlock = some g ∨ c.ownBlock = some g → W'.heap[g]? = W.heap[g]?) : Own3 B W' k a b c :=
 ⟨h.held.same fun g hg => hs g (.inl hg), h.marks.same fun g hg => hs g (.inr (.inl hg)), h.inbox.same fun g hg => hs g (.inr (.inr hg)), h.hm, h.hi, h.mi⟩
theorem Own3.rg (h : Own3 B W k a b c) : Rg a b c B W.heap.size := fun g hg => by
 rcases hg with hg | hg | hg
 ·exact h.held.lt hg
 ·exact h.marks.lt hg
 ·exact h.inbox.lt hg
theorem Rg.off (h : Rg a b c lo hi) (hR : R < lo ∨ hi ≤ R) : Off R a b c :=
 ⟨fun e => by have := h R (.inl e); omega, fun e => by have := h R (.inr (.inl e)); omega, fun e => by have := h R (.inr (.inr e)); omega⟩
end
end Go.Proofs.YtckicpnnclbkpaaGreatDoor.kp

