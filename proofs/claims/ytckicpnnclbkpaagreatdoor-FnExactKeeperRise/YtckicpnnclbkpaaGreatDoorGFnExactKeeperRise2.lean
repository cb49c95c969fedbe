/-
  Merged texts: IRiseK.
-/
import Derived.Test.YtckicpnnclbkpaaGreatDoorGFnExactKeeperOk41
import Derived.Test.YtckicpnnclbkpaaGreatDoorGFnExactKeeperRise1
namespace Go.Proofs.YtckicpnnclbkpaaGreatDoor.hf
open Go.ChangeShapes Go.WideShapes Go.ChangeAt Go.RowKit
open wd ow rl ok kp nb sl dc
set_option maxRecDepth 100000 in
set_option maxHeartbeats 1600000 in
theorem iriseK_any (w : World) (id : Int) (up : Bool) (s : ByteArray) (f : Int) (g : Value) (l : List Hf) (hs : s.size ≤ 1048576) (h : SeesH w g l) (hl : FewH l) (hft : FitsH w g l) (hE : sh.Env w) :
  Calls Tryz.prog 25 #[nodeV id up s f g] w (NodeP (RiseR id up s f l) w) := by
 have K0 := Lib.hid ((Blk.new w 32 (nodeC id up s f g)).alloc (.cells (nodeC 0 false ⟨#[]⟩ 0 (.slice none 0 0)) 32))
 have R0 := Blk.new (w.alloc (.cells (nodeC id up s f g) 32)) 32 (nodeC 0 false ⟨#[]⟩ 0 (.slice none 0 0))
 simp only [World.size_alloc] at R0
 have HR0 := Lib.hid R0
 have HB0 := Lib.hid (((Below.refl w.heap.size w).alloc (Nat.le_refl _) (.cells (nodeC id up s f g) 32)).alloc (by simp) (.cells (nodeC 0 false ⟨#[]⟩ 0 (.slice none 0 0)) 32))
 have HN := Lib.hid (fun V (hV : Below w.heap.size w V) => inode_any V id up s f _ l hs (h.later hV) hl (hft.later h hV) (hE.later hV))
 unfold KOkP at HN
 have HCp := Lib.hid (fun V (hV : Below w.heap.size w V) => icopyN_any V id up s f g l (h.later hV) hl)
 unfold NodePost at HCp
 clear h hl R0 hft hE
 go_enter Tryz.func25, Tryz.ntmps25
 go_wp2_with fail
 generalize (w.alloc (.cells (nodeC id up s f g) 32)).alloc (.cells (nodeC 0 false ⟨#[]⟩ 0 (.slice none 0 0)) 32) = V at K0 HR0 HB0 ⊢
 refine (HN.out _ HB0.out).mono ?_
 rintro e w1 ⟨b, rfl, hN, B1⟩
 have HB1 := Lib.hid (HB0.out.trans (B1.mono HB0.out.size))
 have K1 := Lib.hid (K0.out.below B1 K0.out.lt)
 have R1 := Lib.hid (HR0.out.below B1 HR0.out.lt)
 have HNo := Lib.hid hN
 clear B1 K0 HR0 HB0 HN hN
 cases b with
 | false =>
  obtain ⟨r0, r1, r2, r3, r4, g0, g1, g2, g3, g4⟩ := five5 R1.out
  have HC := Lib.hid (put5n_blk (a' := .int .i64 0) (b' := .bool false) (c' := .string ⟨#[]⟩) (d' := .int .i64 0) (e' := .slice none 0 0) R1.out)
  have HE := Lib.hid (put5n_below (B := w.heap.size) (R := w.heap.size + 1) (Nat.le_succ _) HB1.out (.int .i64 0) (.bool false) (.string ⟨#[]⟩) (.int .i64 0) (.slice none 0 0))
  go_wp2
  obtain ⟨x0, x1, x2, x3, x4, _⟩ := five5 HC.out
  refine bodyPost_ret (v := .agg #[.int .i64 0, .bool false, .string ⟨#[]⟩, .int .i64 0, .slice none 0 0]) (by simp [results, Tryz.results25, go_sem, x0, x1, x2, x3, x4]) rfl ⟨_, _, _, _, [], _, [], .inr ⟨HNo.out, rfl⟩, rfl, ownHs_nil HE.out⟩
 | true =>
  obtain ⟨n0, n1, n2, n3, n4, _⟩ := five5 K1.out
  go_wp2_with fail
  refine (HCp.out _ HB1.out).mono ?_
  rintro e w2 ⟨v, lr, rfl, o⟩
  obtain ⟨A1, c1, rfl⟩ := o.sees.form
  have hA := (Below.refl w2.heap.size w2).alloc (Nat.le_refl _) (.cells (nodeC id up s f (.slice A1 l.length c1)) 32)
  have HB2 := Lib.hid (HB1.out.trans ((o.bel.trans (hA.mono o.bel.size)).mono HB1.out.size))
  have R2 := Lib.hid (R1.out.below (o.bel.trans (hA.mono o.bel.size)) R1.out.lt)
  have KB := Lib.hid (Blk.new w2 32 (nodeC id up s f (.slice A1 l.length c1)))
  have O2 := Lib.hid (o.at_.later hA)
  have HG := Lib.hid o.rg
  have HL1 := Lib.hid (show w.heap.size + 1 < w1.heap.size ∧ w1.heap.size ≤ w2.heap.size from ⟨R1.out.lt, o.bel.size⟩)
  have HF := Lib.hid (show RiseR id up s f l ⟨id, true, s, f, l⟩ from .inl ⟨HNo.out, rfl⟩)
  clear o hA K1 R1 HB1 n0 n1 n2 n3 n4 HCp
  go_upto_region 4 with (fail)
  generalize w2.alloc (.cells (nodeC id up s f (.slice A1 l.length c1)) 32) = W at KB R2 O2 HB2 ⊢
  generalize w2.heap.size = rb at KB HG HL1 ⊢
  obtain ⟨n0, n1, n2, n3, n4, m0, m1, m2, m3, m4⟩ := five5 KB.out
  have K3 := Lib.hid (show Blk (W.setCell ⟨rb, 1, none⟩ (.bool true)) rb 32 (nodeC id true s f (.slice A1 l.length c1)) from KB.out.put 1 _)
  have R3 := Lib.hid (R2.out.far (p := ⟨rb, 1, none⟩) (by show w.heap.size + 1 ≠ rb; have := HL1.out; omega) (.bool true))
  have O3 := Lib.hid (show OwnHAt w1.heap.size (W.setCell ⟨rb, 1, none⟩ (.bool true)) (.slice A1 l.length c1) lr l from by
   have ne : ∀ b, b ≠ rb → (W.setCell ⟨rb, 1, none⟩ (.bool true)).heap[b]? = W.heap[b]? := fun b hb => Below.heap_setCell W ⟨rb, 1, none⟩ _ b hb
   have h := O2.out
   refine ⟨h.row.same fun b hb => ne b (fun e => by have := (HG.out.1 b hb).2; omega), h.len, fun i r x hr hx => ⟨(h.got i r x hr hx).1, (h.got i r x hr hx).2.same fun b hb => ne b (fun e => by have := (HG.out.2 i r hr b hb).2; omega)⟩, h.far, h.apart⟩)
  have HB3 := Lib.hid (HB2.out.setCell (p := ⟨rb, 1, none⟩) (by show w.heap.size ≤ rb; have := HL1.out; omega) (.bool true))
  clear KB R2 O2 HB2
  go_upto_region 5 with (fail)
  clear n0 n1 n2 n3 n4 m0 m1 m2 m3 m4
  generalize W.setCell ⟨rb, 1, none⟩ (.bool true) = W3 at K3 R3 O3 HB3 ⊢
  obtain ⟨n0, n1, n2, n3, n4, _⟩ := five5 K3.out
  obtain ⟨r0, r1, r2, r3, r4, g0, g1, g2, g3, g4⟩ := five5 R3.out
  have HC := Lib.hid (put5n_blk (a' := .int .i64 id) (b' := .bool true) (c' := .string s) (d' := .int .i64 f) (e' := .slice A1 l.length c1) R3.out)
  have HE := Lib.hid (put5n_below (B := w.heap.size) (R := w.heap.size + 1) (Nat.le_succ _) HB3.out (.int .i64 id) (.bool true) (.string s) (.int .i64 f) (.slice A1 l.length c1))
  have HA := Lib.hid (put5n_own O3.out (R := w.heap.size + 1) (by have := HL1.out; omega) (.int .i64 id) (.bool true) (.string s) (.int .i64 f) (.slice A1 l.length c1))
  go_wp2
  obtain ⟨x0, x1, x2, x3, x4, _⟩ := five5 HC.out
  refine bodyPost_ret (v := .agg #[.int .i64 id, .bool true, .string s, .int .i64 f, .slice A1 l.length c1]) (by simp [results, Tryz.results25, go_sem, x0, x1, x2, x3, x4]) rfl ⟨_, _, _, _, l, _, lr, HF.out, rfl, HA.out.of (by have := HL1.out; omega) HE.out⟩
end Go.Proofs.YtckicpnnclbkpaaGreatDoor.hf

