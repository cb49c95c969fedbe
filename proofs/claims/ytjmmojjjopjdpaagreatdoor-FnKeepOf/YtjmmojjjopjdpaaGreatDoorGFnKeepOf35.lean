/-
  Merged texts: IRec2, IRec3, IChg, ICatch.
-/
import Derived.Test.YtjmmojjjopjdpaaGreatDoorGFnKeepOf34
import Derived.Test.YtjmmojjjopjdpaaGreatDoorGFnKeepOf12
import Derived.Test.YtjmmojjjopjdpaaGreatDoorGFnKeepOf18
import Derived.Test.YtjmmojjjopjdpaaGreatDoorGFnKeepOf30
import Derived.Test.YtjmmojjjopjdpaaGreatDoorGFnKeepOf31
import Derived.Test.YtjmmojjjopjdpaaGreatDoorGFnKeepOf32
import Derived.Test.YtjmmojjjopjdpaaGreatDoorGFnKeepOf33
import Derived.Test.YtjmmojjjopjdpaaGreatDoorGFnKeepOf26
import Derived.Defers
import Derived.Recover
import Derived.Laws.Pointers
/-
  Contracts of impl.markText and of the records' text methods.
-/
namespace Go.Proofs.YtjmmojjjopjdpaaGreatDoor.kp
open Go.ChangeShapes Go.WideShapes Go.ChangeAt Go.RowKit
open Go.Proofs.YtjmmojjjopjdpaaGreatDoor.nb Go.Proofs.YtjmmojjjopjdpaaGreatDoor.ok Go.Proofs.YtjmmojjjopjdpaaGreatDoor.wd Go.Proofs.YtjmmojjjopjdpaaGreatDoor.dc

theorem m3I_cat (m : Mk) : ((((str (Lib.itoa m.f) ++ ⟨#[32]⟩) ++ str (Lib.itoa m.n)) ++ ⟨#[32]⟩) ++ str (Lib.itoa m.u)) = str (m3I m) := by
  rw [show (⟨#[32]⟩ : ByteArray) = str [32] from rfl, str_app, str_app, str_app, str_app]
  unfold m3I
  simp
def i64M (m : Mk) : Prop := i64 m.f ∧ i64 m.n ∧ i64 m.u
theorem m3I_len {m : Mk} (h : i64M m) : (str (m3I m)).size ≤ 65 := by
  obtain ⟨h1, h2, h3⟩ := h
  have l1 := itoa_len h1
  have l2 := itoa_len h2
  have l3 := itoa_len h3
  rw [← m3I_cat]
  simp only [ByteArray.size_append]
  have : (⟨#[32]⟩ : ByteArray).size = 1 := rfl
  omega

set_option maxRecDepth 100000 in
set_option maxHeartbeats 800000 in
theorem markText_any (m : Mk) (h : i64M m) (w : World) (hTab : Tab w) : Calls Tryz.prog 393 #[mkV m] w (StrPost w (str (m3I m))) := by
  have l1 := itoa_len h.1
  have l2 := itoa_len h.2.1
  have l3 := itoa_len h.2.2
  have D1 := Lib.hid (fun V hV => itoa_i64 m.f h.1.1 h.1.2 V hV)
  have D2 := Lib.hid (fun V hV => itoa_i64 m.n h.2.1.1 h.2.1.2 V hV)
  have D3 := Lib.hid (fun V hV => itoa_i64 m.u h.2.2.1 h.2.2.2 V hV)
  have HC := Lib.hid (m3I_cat m)
  unfold StrPost at D1 D2 D3
  generalize str (Lib.itoa m.f) = x1 at l1 D1 HC
  generalize str (Lib.itoa m.n) = x2 at l2 D2 HC
  generalize str (Lib.itoa m.u) = x3 at l3 D3 HC
  have lb : (⟨#[32]⟩ : ByteArray).size = 1 := rfl
  obtain ⟨a1, e1, q1, r1⟩ := adds x1 ⟨#[32]⟩ (by omega)
  obtain ⟨a2, e2, q2, r2⟩ := adds a1 x2 (by omega)
  obtain ⟨a3, e3, q3, r3⟩ := adds a2 ⟨#[32]⟩ (by omega)
  obtain ⟨a4, e4, q4, r4⟩ := adds a3 x3 (by omega)
  have HE : Hid (a4 = str (m3I m)) := by
    show _ = _
    rw [← HC.out, e4, e3, e2, e1]
  have hb := Blk.new w 164 #[.int .i64 m.f, .int .i64 m.n, .int .i64 m.u]
  have hB0 := (Below.refl w.heap.size w).alloc (Nat.le_refl _) (.cells #[.int .i64 m.f, .int .i64 m.n, .int .i64 m.u] 164)
  clear e1 e2 e3 e4 q1 q2 q3 q4 l1 l2 l3 lb HC h
  unfold mkV mark
  go_enter Tryz.func393, Tryz.ntmps393
  go_upto_region 1 with (fail)
  generalize w.alloc (.cells #[.int .i64 m.f, .int .i64 m.n, .int .i64 m.u] 164) = V at hb hB0 ⊢
  obtain ⟨c0, c1, c2⟩ := qa.three hb
  have HB := Lib.hid hB0
  have HT := Lib.hid (hTab.later hB0)
  clear hb hB0 hTab
  refine qa.region (by kernel_rfl) (by kernel_rfl) ?_
  repeat (go_big_quiet_step (first | (go_at_call 286; with_reducible exact qa.of_below (D1.out _ (HT.out.later (qa.After.h _)))) | (go_at_call 286; with_reducible exact qa.of_below (D2.out _ (HT.out.later (qa.After.h _)))) | (go_at_call 286; with_reducible exact qa.of_below (D3.out _ (HT.out.later (qa.After.h _))))))
  refine wpQuiet_nil ?_
  rintro _ ⟨p, rfl⟩
  have HB2 := Lib.hid (HB.out.trans (p.h.mono HB.out.size))
  clear c0 c1 c2
  go_wp2
  go_ret
  exact ⟨by rw [HE.out]; rfl, HB2.out⟩

/-- a record's numbers can be held -/
def rcI : Rc → Prop
  | .time v => i64 v
  | .next v => i64 v
  | .lets m => i64M m
  | .eat m => i64M m
  | .mark m => i64M m
  | _ => True
theorem wlN_len {x : Nt} (h : okNt x = true) : (str (wlN x)).size ≤ 1000 := by
  obtain ⟨⟨a1, a2⟩, ⟨b1, b2⟩, ⟨c1, c2⟩, ⟨d1, d2⟩, ⟨_, e2⟩, _⟩ := okN_parts h
  rw [str_size]
  unfold wlN wl
  have p1 := (dl_len (n := x.f) (by omega)).2
  have p2 := (dl_len (n := x.n) (by omega)).2
  have p3 := (dl_len (n := x.t) (by omega)).2
  have p4 := (dl_len (n := x.u) (by omega)).2
  have p5 : x.s.data.toList.length = x.s.size := (Lib.size_eq x.s).symm
  simp only [List.length_append, List.length_cons]
  omega

set_option maxRecDepth 100000 in
theorem text_time (v : Int) (h : i64 v) (w : World) (hTab : Tab w) : Calls Tryz.prog 388 #[.agg #[.int .i64 v]] w (StrPost w (str (txL (.time v)))) := by
  have l1 := itoa_len h
  have D1 := Lib.hid (fun V hV => itoa_i64 v h.1 h.2 V hV)
  have HC := Lib.hid (show (⟨#[116, 105, 109, 101, 32]⟩ : ByteArray) ++ str (Lib.itoa v) = str (txL (.time v)) by rw [show (⟨#[116, 105, 109, 101, 32]⟩ : ByteArray) = str (kwTime ++ [32]) from rfl, str_app]; unfold txL; rw [List.append_assoc]; rfl)
  generalize str (Lib.itoa v) = x1 at l1 D1 HC
  unfold StrPost at D1
  have lb : (⟨#[116, 105, 109, 101, 32]⟩ : ByteArray).size ≤ 10 := by decide
  obtain ⟨a1, e1, q1, r1⟩ := adds ⟨#[116, 105, 109, 101, 32]⟩ x1 (by omega)
  have HE : Hid (a1 = str (txL (.time v))) := by
    show _ = _
    rw [← HC.out, e1]
  have HB := Lib.hid ((Below.refl w.heap.size w).alloc (Nat.le_refl _) (.cells #[.int .i64 v] 238))
  have HT := Lib.hid (hTab.later HB.out)
  clear e1 q1 l1 lb HC h hTab
  go_enter Tryz.func388, Tryz.ntmps388
  go_wp2_with fail
  refine (D1.out _ HT.out).mono ?_
  rintro e w2 ⟨rfl, hB2⟩
  have HB2 := Lib.hid (HB.out.trans (hB2.mono HB.out.size))
  clear hB2
  go_wp2
  go_ret
  exact ⟨by rw [HE.out]; rfl, HB2.out⟩

set_option maxRecDepth 100000 in
theorem text_next (v : Int) (h : i64 v) (w : World) (hTab : Tab w) : Calls Tryz.prog 389 #[.agg #[.int .i64 v]] w (StrPost w (str (txL (.next v)))) := by
  have l1 := itoa_len h
  have D1 := Lib.hid (fun V hV => itoa_i64 v h.1 h.2 V hV)
  have HC := Lib.hid (show (⟨#[110, 101, 120, 116, 32]⟩ : ByteArray) ++ str (Lib.itoa v) = str (txL (.next v)) by rw [show (⟨#[110, 101, 120, 116, 32]⟩ : ByteArray) = str (kwNext ++ [32]) from rfl, str_app]; unfold txL; rw [List.append_assoc]; rfl)
  generalize str (Lib.itoa v) = x1 at l1 D1 HC
  unfold StrPost at D1
  have lb : (⟨#[110, 101, 120, 116, 32]⟩ : ByteArray).size ≤ 10 := by decide
  obtain ⟨a1, e1, q1, r1⟩ := adds ⟨#[110, 101, 120, 116, 32]⟩ x1 (by omega)
  have HE : Hid (a1 = str (txL (.next v))) := by
    show _ = _
    rw [← HC.out, e1]
  have HB := Lib.hid ((Below.refl w.heap.size w).alloc (Nat.le_refl _) (.cells #[.int .i64 v] 242))
  have HT := Lib.hid (hTab.later HB.out)
  clear e1 q1 l1 lb HC h hTab
  go_enter Tryz.func389, Tryz.ntmps389
  go_wp2_with fail
  refine (D1.out _ HT.out).mono ?_
  rintro e w2 ⟨rfl, hB2⟩
  have HB2 := Lib.hid (HB.out.trans (hB2.mono HB.out.size))
  clear hB2
  go_wp2
  go_ret
  exact ⟨by rw [HE.out]; rfl, HB2.out⟩

set_option maxRecDepth 100000 in
theorem text_own (x : Nt) (h : okNt x = true) (w : World) (hTab : Tab w) : Calls Tryz.prog 390 #[ntV x] w (StrPost w (str (txL (.own x)))) := by
  have l1 := wlN_len h
  have D1 := Lib.hid (fun V hV => (show Calls Tryz.prog 304 #[note x.f x.n x.t x.u x.s] V (StrPost V (str (wlN x))) by have := iwrite_any x.f x.n x.t x.u x.s V (by have := okNt_size h; unfold maxLen; omega) hV; rwa [nw_t h] at this))
  unfold note at D1
  have HC := Lib.hid (show (⟨#[111, 119, 110, 32]⟩ : ByteArray) ++ str (wlN x) = str (txL (.own x)) by rw [show (⟨#[111, 119, 110, 32]⟩ : ByteArray) = str (kwOwn ++ [32]) from rfl, str_app]; unfold txL; rw [List.append_assoc]; rfl)
  generalize str (wlN x) = x1 at l1 D1 HC
  unfold StrPost at D1
  have lb : (⟨#[111, 119, 110, 32]⟩ : ByteArray).size ≤ 10 := by decide
  obtain ⟨a1, e1, q1, r1⟩ := adds ⟨#[111, 119, 110, 32]⟩ x1 (by omega)
  have HE : Hid (a1 = str (txL (.own x))) := by
    show _ = _
    rw [← HC.out, e1]
  have HB := Lib.hid ((Below.refl w.heap.size w).alloc (Nat.le_refl _) (.cells #[.int .i64 x.f, .int .i64 x.n, .int .i64 x.t, .int .i64 x.u, .string x.s] 244))
  have HT := Lib.hid (hTab.later HB.out)
  clear e1 q1 l1 lb HC h hTab
  unfold ntV note
  go_enter Tryz.func390, Tryz.ntmps390
  go_wp2_with fail
  refine (D1.out _ HT.out).mono ?_
  rintro e w2 ⟨rfl, hB2⟩
  have HB2 := Lib.hid (HB.out.trans (hB2.mono HB.out.size))
  clear hB2
  go_wp2
  go_ret
  exact ⟨by rw [HE.out]; rfl, HB2.out⟩

set_option maxRecDepth 100000 in
theorem text_take (x : Nt) (h : okNt x = true) (w : World) (hTab : Tab w) : Calls Tryz.prog 391 #[ntV x] w (StrPost w (str (txL (.take x)))) := by
  have l1 := wlN_len h
  have D1 := Lib.hid (fun V hV => (show Calls Tryz.prog 304 #[note x.f x.n x.t x.u x.s] V (StrPost V (str (wlN x))) by have := iwrite_any x.f x.n x.t x.u x.s V (by have := okNt_size h; unfold maxLen; omega) hV; rwa [nw_t h] at this))
  unfold note at D1
  have HC := Lib.hid (show (⟨#[116, 97, 107, 101, 32]⟩ : ByteArray) ++ str (wlN x) = str (txL (.take x)) by rw [show (⟨#[116, 97, 107, 101, 32]⟩ : ByteArray) = str (kwTake ++ [32]) from rfl, str_app]; unfold txL; rw [List.append_assoc]; rfl)
  generalize str (wlN x) = x1 at l1 D1 HC
  unfold StrPost at D1
  have lb : (⟨#[116, 97, 107, 101, 32]⟩ : ByteArray).size ≤ 10 := by decide
  obtain ⟨a1, e1, q1, r1⟩ := adds ⟨#[116, 97, 107, 101, 32]⟩ x1 (by omega)
  have HE : Hid (a1 = str (txL (.take x))) := by
    show _ = _
    rw [← HC.out, e1]
  have HB := Lib.hid ((Below.refl w.heap.size w).alloc (Nat.le_refl _) (.cells #[.int .i64 x.f, .int .i64 x.n, .int .i64 x.t, .int .i64 x.u, .string x.s] 246))
  have HT := Lib.hid (hTab.later HB.out)
  clear e1 q1 l1 lb HC h hTab
  unfold ntV note
  go_enter Tryz.func391, Tryz.ntmps391
  go_wp2_with fail
  refine (D1.out _ HT.out).mono ?_
  rintro e w2 ⟨rfl, hB2⟩
  have HB2 := Lib.hid (HB.out.trans (hB2.mono HB.out.size))
  clear hB2
  go_wp2
  go_ret
  exact ⟨by rw [HE.out]; rfl, HB2.out⟩

set_option maxRecDepth 100000 in
theorem text_held (x : Nt) (h : okNt x = true) (w : World) (hTab : Tab w) : Calls Tryz.prog 396 #[ntV x] w (StrPost w (str (txL (.held x)))) := by
  have l1 := wlN_len h
  have D1 := Lib.hid (fun V hV => (show Calls Tryz.prog 304 #[note x.f x.n x.t x.u x.s] V (StrPost V (str (wlN x))) by have := iwrite_any x.f x.n x.t x.u x.s V (by have := okNt_size h; unfold maxLen; omega) hV; rwa [nw_t h] at this))
  unfold note at D1
  have HC := Lib.hid (show (⟨#[104, 101, 108, 100, 32]⟩ : ByteArray) ++ str (wlN x) = str (txL (.held x)) by rw [show (⟨#[104, 101, 108, 100, 32]⟩ : ByteArray) = str (kwHeld ++ [32]) from rfl, str_app]; unfold txL; rw [List.append_assoc]; rfl)
  generalize str (wlN x) = x1 at l1 D1 HC
  unfold StrPost at D1
  have lb : (⟨#[104, 101, 108, 100, 32]⟩ : ByteArray).size ≤ 10 := by decide
  obtain ⟨a1, e1, q1, r1⟩ := adds ⟨#[104, 101, 108, 100, 32]⟩ x1 (by omega)
  have HE : Hid (a1 = str (txL (.held x))) := by
    show _ = _
    rw [← HC.out, e1]
  have HB := Lib.hid ((Below.refl w.heap.size w).alloc (Nat.le_refl _) (.cells #[.int .i64 x.f, .int .i64 x.n, .int .i64 x.t, .int .i64 x.u, .string x.s] 252))
  have HT := Lib.hid (hTab.later HB.out)
  clear e1 q1 l1 lb HC h hTab
  unfold ntV note
  go_enter Tryz.func396, Tryz.ntmps396
  go_wp2_with fail
  refine (D1.out _ HT.out).mono ?_
  rintro e w2 ⟨rfl, hB2⟩
  have HB2 := Lib.hid (HB.out.trans (hB2.mono HB.out.size))
  clear hB2
  go_wp2
  go_ret
  exact ⟨by rw [HE.out]; rfl, HB2.out⟩

set_option maxRecDepth 100000 in
theorem text_inbox (x : Nt) (h : okNt x = true) (w : World) (hTab : Tab w) : Calls Tryz.prog 397 #[ntV x] w (StrPost w (str (txL (.inbox x)))) := by
  have l1 := wlN_len h
  have D1 := Lib.hid (fun V hV => (show Calls Tryz.prog 304 #[note x.f x.n x.t x.u x.s] V (StrPost V (str (wlN x))) by have := iwrite_any x.f x.n x.t x.u x.s V (by have := okNt_size h; unfold maxLen; omega) hV; rwa [nw_t h] at this))
  unfold note at D1
  have HC := Lib.hid (show (⟨#[105, 110, 98, 111, 120, 32]⟩ : ByteArray) ++ str (wlN x) = str (txL (.inbox x)) by rw [show (⟨#[105, 110, 98, 111, 120, 32]⟩ : ByteArray) = str (kwInbox ++ [32]) from rfl, str_app]; unfold txL; rw [List.append_assoc]; rfl)
  generalize str (wlN x) = x1 at l1 D1 HC
  unfold StrPost at D1
  have lb : (⟨#[105, 110, 98, 111, 120, 32]⟩ : ByteArray).size ≤ 10 := by decide
  obtain ⟨a1, e1, q1, r1⟩ := adds ⟨#[105, 110, 98, 111, 120, 32]⟩ x1 (by omega)
  have HE : Hid (a1 = str (txL (.inbox x))) := by
    show _ = _
    rw [← HC.out, e1]
  have HB := Lib.hid ((Below.refl w.heap.size w).alloc (Nat.le_refl _) (.cells #[.int .i64 x.f, .int .i64 x.n, .int .i64 x.t, .int .i64 x.u, .string x.s] 253))
  have HT := Lib.hid (hTab.later HB.out)
  clear e1 q1 l1 lb HC h hTab
  unfold ntV note
  go_enter Tryz.func397, Tryz.ntmps397
  go_wp2_with fail
  refine (D1.out _ HT.out).mono ?_
  rintro e w2 ⟨rfl, hB2⟩
  have HB2 := Lib.hid (HB.out.trans (hB2.mono HB.out.size))
  clear hB2
  go_wp2
  go_ret
  exact ⟨by rw [HE.out]; rfl, HB2.out⟩

set_option maxRecDepth 100000 in
theorem text_lets (m : Mk) (h : i64M m) (w : World) (hTab : Tab w) : Calls Tryz.prog 392 #[mkV m] w (StrPost w (str (txL (.lets m)))) := by
  have l1 := m3I_len h
  have D1 := Lib.hid (fun V hV => markText_any m h V hV)
  unfold mkV mark at D1
  have HC := Lib.hid (show (⟨#[108, 101, 116, 32]⟩ : ByteArray) ++ str (m3I m) = str (txL (.lets m)) by rw [show (⟨#[108, 101, 116, 32]⟩ : ByteArray) = str (kwLet ++ [32]) from rfl, str_app]; unfold txL; rw [List.append_assoc]; rfl)
  generalize str (m3I m) = x1 at l1 D1 HC
  unfold StrPost at D1
  have lb : (⟨#[108, 101, 116, 32]⟩ : ByteArray).size ≤ 10 := by decide
  obtain ⟨a1, e1, q1, r1⟩ := adds ⟨#[108, 101, 116, 32]⟩ x1 (by omega)
  have HE : Hid (a1 = str (txL (.lets m))) := by
    show _ = _
    rw [← HC.out, e1]
  have HB := Lib.hid ((Below.refl w.heap.size w).alloc (Nat.le_refl _) (.cells #[.int .i64 m.f, .int .i64 m.n, .int .i64 m.u] 248))
  have HT := Lib.hid (hTab.later HB.out)
  clear e1 q1 l1 lb HC h hTab
  unfold mkV mark
  go_enter Tryz.func392, Tryz.ntmps392
  go_wp2_with fail
  refine (D1.out _ HT.out).mono ?_
  rintro e w2 ⟨rfl, hB2⟩
  have HB2 := Lib.hid (HB.out.trans (hB2.mono HB.out.size))
  clear hB2
  go_wp2
  go_ret
  exact ⟨by rw [HE.out]; rfl, HB2.out⟩

set_option maxRecDepth 100000 in
theorem text_eat (m : Mk) (h : i64M m) (w : World) (hTab : Tab w) : Calls Tryz.prog 394 #[mkV m] w (StrPost w (str (txL (.eat m)))) := by
  have l1 := m3I_len h
  have D1 := Lib.hid (fun V hV => markText_any m h V hV)
  unfold mkV mark at D1
  have HC := Lib.hid (show (⟨#[101, 97, 116, 32]⟩ : ByteArray) ++ str (m3I m) = str (txL (.eat m)) by rw [show (⟨#[101, 97, 116, 32]⟩ : ByteArray) = str (kwEat ++ [32]) from rfl, str_app]; unfold txL; rw [List.append_assoc]; rfl)
  generalize str (m3I m) = x1 at l1 D1 HC
  unfold StrPost at D1
  have lb : (⟨#[101, 97, 116, 32]⟩ : ByteArray).size ≤ 10 := by decide
  obtain ⟨a1, e1, q1, r1⟩ := adds ⟨#[101, 97, 116, 32]⟩ x1 (by omega)
  have HE : Hid (a1 = str (txL (.eat m))) := by
    show _ = _
    rw [← HC.out, e1]
  have HB := Lib.hid ((Below.refl w.heap.size w).alloc (Nat.le_refl _) (.cells #[.int .i64 m.f, .int .i64 m.n, .int .i64 m.u] 250))
  have HT := Lib.hid (hTab.later HB.out)
  clear e1 q1 l1 lb HC h hTab
  unfold mkV mark
  go_enter Tryz.func394, Tryz.ntmps394
  go_wp2_with fail
  refine (D1.out _ HT.out).mono ?_
  rintro e w2 ⟨rfl, hB2⟩
  have HB2 := Lib.hid (HB.out.trans (hB2.mono HB.out.size))
  clear hB2
  go_wp2
  go_ret
  exact ⟨by rw [HE.out]; rfl, HB2.out⟩

set_option maxRecDepth 100000 in
theorem text_mark (m : Mk) (h : i64M m) (w : World) (hTab : Tab w) : Calls Tryz.prog 395 #[mkV m] w (StrPost w (str (txL (.mark m)))) := by
  have l1 := m3I_len h
  have D1 := Lib.hid (fun V hV => markText_any m h V hV)
  unfold mkV mark at D1
  have HC := Lib.hid (show (⟨#[109, 97, 114, 107, 32]⟩ : ByteArray) ++ str (m3I m) = str (txL (.mark m)) by rw [show (⟨#[109, 97, 114, 107, 32]⟩ : ByteArray) = str (kwMark ++ [32]) from rfl, str_app]; unfold txL; rw [List.append_assoc]; rfl)
  generalize str (m3I m) = x1 at l1 D1 HC
  unfold StrPost at D1
  have lb : (⟨#[109, 97, 114, 107, 32]⟩ : ByteArray).size ≤ 10 := by decide
  obtain ⟨a1, e1, q1, r1⟩ := adds ⟨#[109, 97, 114, 107, 32]⟩ x1 (by omega)
  have HE : Hid (a1 = str (txL (.mark m))) := by
    show _ = _
    rw [← HC.out, e1]
  have HB := Lib.hid ((Below.refl w.heap.size w).alloc (Nat.le_refl _) (.cells #[.int .i64 m.f, .int .i64 m.n, .int .i64 m.u] 251))
  have HT := Lib.hid (hTab.later HB.out)
  clear e1 q1 l1 lb HC h hTab
  unfold mkV mark
  go_enter Tryz.func395, Tryz.ntmps395
  go_wp2_with fail
  refine (D1.out _ HT.out).mono ?_
  rintro e w2 ⟨rfl, hB2⟩
  have HB2 := Lib.hid (HB.out.trans (hB2.mono HB.out.size))
  clear hB2
  go_wp2
  go_ret
  exact ⟨by rw [HE.out]; rfl, HB2.out⟩

def rcT : Rc → TypeId
  | .time _ => 238
  | .next _ => 242
  | .own _ => 244
  | .take _ => 246
  | .held _ => 252
  | .inbox _ => 253
  | .lets _ => 248
  | .eat _ => 250
  | .mark _ => 251
def rcP : Rc → Value
  | .time v => .agg #[.int .i64 v]
  | .next v => .agg #[.int .i64 v]
  | .own x => ntV x
  | .take x => ntV x
  | .held x => ntV x
  | .inbox x => ntV x
  | .lets m => mkV m
  | .eat m => mkV m
  | .mark m => mkV m
def rcFn : Rc → Nat
  | .time _ => 388
  | .next _ => 389
  | .own _ => 390
  | .take _ => 391
  | .held _ => 396
  | .inbox _ => 397
  | .lets _ => 392
  | .eat _ => 394
  | .mark _ => 395
/-- a record behind the interface -/
def rcV (r : Rc) : Value := .iface (rcT r) (rcP r)
theorem mText (r : Rc) (w : World) : (Go.method 569 (rcT r) (rcP r) "loop.example/bargeman/impl.text").run Tryz.prog w = .ok (rcFn r, rcP r) w := by
  cases r <;> kernel_rfl
theorem callRc (r : Rc) (w : World) : (callFunc (rcFn r) #[rcP r]).run Tryz.prog w = .ok (.enter (rcFn r) #[rcP r]) w := by
  cases r <;> kernel_rfl
theorem text_any (r : Rc) (h1 : ntIn r) (h2 : rcI r) (w : World) (hTab : Tab w) : Calls Tryz.prog (rcFn r) #[rcP r] w (StrPost w (str (txL r))) := by
  cases r with
  | time v => exact text_time v h2 w hTab
  | next v => exact text_next v h2 w hTab
  | own x => exact text_own x h1 w hTab
  | take x => exact text_take x h1 w hTab
  | held x => exact text_held x h1 w hTab
  | inbox x => exact text_inbox x h1 w hTab
  | lets m => exact text_lets m h2 w hTab
  | eat m => exact text_eat m h2 w hTab
  | mark m => exact text_mark m h2 w hTab
theorem txL_len {r : Rc} (h1 : ntIn r) (h2 : rcI r) : (str (txL r)).size ≤ 2000 := by
  rw [str_size]
  unfold txL
  rw [List.length_append, List.length_cons]
  have hk : (kw r).length ≤ 5 := by cases r <;> simp [kw, kwTime, kwNext, kwOwn, kwTake, kwHeld, kwInbox, kwLet, kwEat, kwMark]
  have hb : (bodyI r).length ≤ 1000 := by
    rw [← str_size]
    cases r with
    | time v => have := itoa_len (show i64 v from h2); show (str (Lib.itoa v)).size ≤ 1000; omega
    | next v => have := itoa_len (show i64 v from h2); show (str (Lib.itoa v)).size ≤ 1000; omega
    | own x => exact wlN_len h1
    | take x => exact wlN_len h1
    | held x => exact wlN_len h1
    | inbox x => exact wlN_len h1
    | lets m => have := m3I_len (show i64M m from h2); show (str (m3I m)).size ≤ 1000; omega
    | eat m => have := m3I_len (show i64M m from h2); show (str (m3I m)).size ≤ 1000; omega
    | mark m => have := m3I_len (show i64M m from h2); show (str (m3I m)).size ≤ 1000; omega
  omega
end Go.Proofs.YtjmmojjjopjdpaaGreatDoor.kp

/-
  Contracts of impl.recordOf and impl.readRecord.
-/
namespace Go.Proofs.YtjmmojjjopjdpaaGreatDoor.kp
open Go.ChangeShapes Go.WideShapes Go.ChangeAt Go.RowKit
open Go.Proofs.YtjmmojjjopjdpaaGreatDoor.nb Go.Proofs.YtjmmojjjopjdpaaGreatDoor.ok Go.Proofs.YtjmmojjjopjdpaaGreatDoor.wd Go.Proofs.YtjmmojjjopjdpaaGreatDoor.dc

def OfP (w : World) (a b : List UInt8) (e : Ending) (w' : World) : Prop := Below w.heap.size w w' ∧ ((∃ r, RO a b (some r) ∧ rcI r ∧ e = .returned (rcV r)) ∨ (RO a b none ∧ e = Imp))
theorem mkR_i64 (b : List UInt8) : i64M (mkR b) := ⟨atoi_i64 _, atoi_i64 _, atoi_i64 _⟩
theorem str_kw (l : List UInt8) : str l = ⟨⟨l⟩⟩ := rfl

set_option maxRecDepth 100000 in
set_option maxHeartbeats 800000 in
theorem of_time (b : List UInt8) (hs : b.length ≤ 1048576) (w : World) (hErr : Errs w) : Calls Tryz.prog 194 #[.string ⟨#[116, 105, 109, 101]⟩, .string (str b)] w (OfP w kwTime b) := by
  have HR := Lib.hid (rnum_any b hs w hErr)
  have HO := Lib.hid (ro_time b)
  have HI := Lib.hid (show rcI (.time (atoiV (word b).1)) from atoi_i64 _)
  have HV := Lib.hid (show rcV (.time (atoiV (word b).1)) = .iface 238 (.agg #[.int .i64 (rdV b 0)]) from rfl)
  generalize str b = s at HR ⊢
  go_enter Tryz.func194, Tryz.ntmps194
  go_wp2_with fail
  refine HR.out.mono ?_
  rintro e w2 ⟨rfl, hB2⟩
  have HB2 := Lib.hid hB2
  clear hB2 HR
  generalize rdV b 0 = v at HV
  go_wp2
  go_ret
  exact ⟨HB2.out, .inl ⟨_, HO.out, HI.out, congrArg Ending.returned HV.out.symm⟩⟩

set_option maxRecDepth 100000 in
set_option maxHeartbeats 800000 in
theorem of_next (b : List UInt8) (hs : b.length ≤ 1048576) (w : World) (hErr : Errs w) : Calls Tryz.prog 194 #[.string ⟨#[110, 101, 120, 116]⟩, .string (str b)] w (OfP w kwNext b) := by
  have HR := Lib.hid (rnum_any b hs w hErr)
  have HO := Lib.hid (ro_next b)
  have HI := Lib.hid (show rcI (.next (atoiV (word b).1)) from atoi_i64 _)
  have HV := Lib.hid (show rcV (.next (atoiV (word b).1)) = .iface 242 (.agg #[.int .i64 (rdV b 0)]) from rfl)
  generalize str b = s at HR ⊢
  go_enter Tryz.func194, Tryz.ntmps194
  go_wp2_with fail
  refine HR.out.mono ?_
  rintro e w2 ⟨rfl, hB2⟩
  have HB2 := Lib.hid hB2
  clear hB2 HR
  generalize rdV b 0 = v at HV
  go_wp2
  go_ret
  exact ⟨HB2.out, .inl ⟨_, HO.out, HI.out, congrArg Ending.returned HV.out.symm⟩⟩

set_option maxRecDepth 100000 in
set_option maxHeartbeats 800000 in
theorem of_own (b : List UInt8) (hs : b.length ≤ 1048576) (w : World) (hTab : Tab w) (hErr : Errs w) : Calls Tryz.prog 194 #[.string ⟨#[111, 119, 110]⟩, .string (str b)] w (OfP w kwOwn b) := by
  have HR := Lib.hid (rnote_any b hs w hTab hErr)
  have HO := Lib.hid (fun (y : Nt) (h : RD (str b) true y.f y.n y.t y.u y.s) => ro_own h)
  have HN := Lib.hid (fun (y : Nt) (h : RD (str b) false y.f y.n y.t y.u y.s) => ro_own_no h)
  unfold RNote at HR
  generalize str b = s at HR HO HN ⊢
  go_enter Tryz.func194, Tryz.ntmps194
  go_wp2_with fail
  refine HR.out.mono ?_
  rintro e w2 (⟨y, rfl, hrd, hB2⟩ | ⟨rfl, ⟨y, hrd⟩, hB2⟩)
  · have HB2 := Lib.hid hB2
    have HO2 := Lib.hid (HO.out y hrd)
    have HV := Lib.hid (show rcV (.own y) = .iface 244 (ntV y) from rfl)
    unfold ntV note at HV ⊢
    clear hB2 HR HO HN hrd
    go_wp2
    go_ret
    exact ⟨HB2.out, .inl ⟨_, HO2.out, trivial, congrArg Ending.returned HV.out.symm⟩⟩
  · have HB2 := Lib.hid hB2
    have HN2 := Lib.hid (HN.out y hrd)
    clear hB2 HR HO HN hrd
    go_wp2
    exact ⟨rfl, HB2.out, .inr ⟨HN2.out, rfl⟩⟩

set_option maxRecDepth 100000 in
set_option maxHeartbeats 800000 in
theorem of_take (b : List UInt8) (hs : b.length ≤ 1048576) (w : World) (hTab : Tab w) (hErr : Errs w) : Calls Tryz.prog 194 #[.string ⟨#[116, 97, 107, 101]⟩, .string (str b)] w (OfP w kwTake b) := by
  have HR := Lib.hid (rnote_any b hs w hTab hErr)
  have HO := Lib.hid (fun (y : Nt) (h : RD (str b) true y.f y.n y.t y.u y.s) => ro_take h)
  have HN := Lib.hid (fun (y : Nt) (h : RD (str b) false y.f y.n y.t y.u y.s) => ro_take_no h)
  unfold RNote at HR
  generalize str b = s at HR HO HN ⊢
  go_enter Tryz.func194, Tryz.ntmps194
  go_wp2_with fail
  refine HR.out.mono ?_
  rintro e w2 (⟨y, rfl, hrd, hB2⟩ | ⟨rfl, ⟨y, hrd⟩, hB2⟩)
  · have HB2 := Lib.hid hB2
    have HO2 := Lib.hid (HO.out y hrd)
    have HV := Lib.hid (show rcV (.take y) = .iface 246 (ntV y) from rfl)
    unfold ntV note at HV ⊢
    clear hB2 HR HO HN hrd
    go_wp2
    go_ret
    exact ⟨HB2.out, .inl ⟨_, HO2.out, trivial, congrArg Ending.returned HV.out.symm⟩⟩
  · have HB2 := Lib.hid hB2
    have HN2 := Lib.hid (HN.out y hrd)
    clear hB2 HR HO HN hrd
    go_wp2
    exact ⟨rfl, HB2.out, .inr ⟨HN2.out, rfl⟩⟩

set_option maxRecDepth 100000 in
set_option maxHeartbeats 800000 in
theorem of_held (b : List UInt8) (hs : b.length ≤ 1048576) (w : World) (hTab : Tab w) (hErr : Errs w) : Calls Tryz.prog 194 #[.string ⟨#[104, 101, 108, 100]⟩, .string (str b)] w (OfP w kwHeld b) := by
  have HR := Lib.hid (rnote_any b hs w hTab hErr)
  have HO := Lib.hid (fun (y : Nt) (h : RD (str b) true y.f y.n y.t y.u y.s) => ro_held h)
  have HN := Lib.hid (fun (y : Nt) (h : RD (str b) false y.f y.n y.t y.u y.s) => ro_held_no h)
  unfold RNote at HR
  generalize str b = s at HR HO HN ⊢
  go_enter Tryz.func194, Tryz.ntmps194
  go_wp2_with fail
  refine HR.out.mono ?_
  rintro e w2 (⟨y, rfl, hrd, hB2⟩ | ⟨rfl, ⟨y, hrd⟩, hB2⟩)
  · have HB2 := Lib.hid hB2
    have HO2 := Lib.hid (HO.out y hrd)
    have HV := Lib.hid (show rcV (.held y) = .iface 252 (ntV y) from rfl)
    unfold ntV note at HV ⊢
    clear hB2 HR HO HN hrd
    go_wp2
    go_ret
    exact ⟨HB2.out, .inl ⟨_, HO2.out, trivial, congrArg Ending.returned HV.out.symm⟩⟩
  · have HB2 := Lib.hid hB2
    have HN2 := Lib.hid (HN.out y hrd)
    clear hB2 HR HO HN hrd
    go_wp2
    exact ⟨rfl, HB2.out, .inr ⟨HN2.out, rfl⟩⟩

set_option maxRecDepth 100000 in
set_option maxHeartbeats 800000 in
theorem of_inbox (b : List UInt8) (hs : b.length ≤ 1048576) (w : World) (hTab : Tab w) (hErr : Errs w) : Calls Tryz.prog 194 #[.string ⟨#[105, 110, 98, 111, 120]⟩, .string (str b)] w (OfP w kwInbox b) := by
  have HR := Lib.hid (rnote_any b hs w hTab hErr)
  have HO := Lib.hid (fun (y : Nt) (h : RD (str b) true y.f y.n y.t y.u y.s) => ro_inbox h)
  have HN := Lib.hid (fun (y : Nt) (h : RD (str b) false y.f y.n y.t y.u y.s) => ro_inbox_no h)
  unfold RNote at HR
  generalize str b = s at HR HO HN ⊢
  go_enter Tryz.func194, Tryz.ntmps194
  go_wp2_with fail
  refine HR.out.mono ?_
  rintro e w2 (⟨y, rfl, hrd, hB2⟩ | ⟨rfl, ⟨y, hrd⟩, hB2⟩)
  · have HB2 := Lib.hid hB2
    have HO2 := Lib.hid (HO.out y hrd)
    have HV := Lib.hid (show rcV (.inbox y) = .iface 253 (ntV y) from rfl)
    unfold ntV note at HV ⊢
    clear hB2 HR HO HN hrd
    go_wp2
    go_ret
    exact ⟨HB2.out, .inl ⟨_, HO2.out, trivial, congrArg Ending.returned HV.out.symm⟩⟩
  · have HB2 := Lib.hid hB2
    have HN2 := Lib.hid (HN.out y hrd)
    clear hB2 HR HO HN hrd
    go_wp2
    exact ⟨rfl, HB2.out, .inr ⟨HN2.out, rfl⟩⟩

set_option maxRecDepth 100000 in
set_option maxHeartbeats 800000 in
theorem of_lets (b : List UInt8) (hs : b.length ≤ 1048576) (w : World) (hErr : Errs w) : Calls Tryz.prog 194 #[.string ⟨#[108, 101, 116]⟩, .string (str b)] w (OfP w kwLet b) := by
  have HR := Lib.hid (rmark_any b hs w hErr)
  have HO := Lib.hid (ro_let b)
  have HI := Lib.hid (show rcI (.lets (mkR b)) from mkR_i64 b)
  generalize mkR b = m at HR HO HI
  have HV := Lib.hid (show rcV (.lets m) = .iface 248 (mkV m) from rfl)
  unfold mkV mark at HR HV
  generalize str b = s at HR ⊢
  go_enter Tryz.func194, Tryz.ntmps194
  go_wp2_with fail
  refine HR.out.mono ?_
  rintro e w2 ⟨rfl, hB2⟩
  have HB2 := Lib.hid hB2
  clear hB2 HR
  go_wp2
  go_ret
  exact ⟨HB2.out, .inl ⟨_, HO.out, HI.out, congrArg Ending.returned HV.out.symm⟩⟩

set_option maxRecDepth 100000 in
set_option maxHeartbeats 800000 in
theorem of_eat (b : List UInt8) (hs : b.length ≤ 1048576) (w : World) (hErr : Errs w) : Calls Tryz.prog 194 #[.string ⟨#[101, 97, 116]⟩, .string (str b)] w (OfP w kwEat b) := by
  have HR := Lib.hid (rmark_any b hs w hErr)
  have HO := Lib.hid (ro_eat b)
  have HI := Lib.hid (show rcI (.eat (mkR b)) from mkR_i64 b)
  generalize mkR b = m at HR HO HI
  have HV := Lib.hid (show rcV (.eat m) = .iface 250 (mkV m) from rfl)
  unfold mkV mark at HR HV
  generalize str b = s at HR ⊢
  go_enter Tryz.func194, Tryz.ntmps194
  go_wp2_with fail
  refine HR.out.mono ?_
  rintro e w2 ⟨rfl, hB2⟩
  have HB2 := Lib.hid hB2
  clear hB2 HR
  go_wp2
  go_ret
  exact ⟨HB2.out, .inl ⟨_, HO.out, HI.out, congrArg Ending.returned HV.out.symm⟩⟩

set_option maxRecDepth 100000 in
set_option maxHeartbeats 800000 in
theorem of_mark (b : List UInt8) (hs : b.length ≤ 1048576) (w : World) (hErr : Errs w) : Calls Tryz.prog 194 #[.string ⟨#[109, 97, 114, 107]⟩, .string (str b)] w (OfP w kwMark b) := by
  have HR := Lib.hid (rmark_any b hs w hErr)
  have HO := Lib.hid (ro_mark b)
  have HI := Lib.hid (show rcI (.mark (mkR b)) from mkR_i64 b)
  generalize mkR b = m at HR HO HI
  have HV := Lib.hid (show rcV (.mark m) = .iface 251 (mkV m) from rfl)
  unfold mkV mark at HR HV
  generalize str b = s at HR ⊢
  go_enter Tryz.func194, Tryz.ntmps194
  go_wp2_with fail
  refine HR.out.mono ?_
  rintro e w2 ⟨rfl, hB2⟩
  have HB2 := Lib.hid hB2
  clear hB2 HR
  go_wp2
  go_ret
  exact ⟨HB2.out, .inl ⟨_, HO.out, HI.out, congrArg Ending.returned HV.out.symm⟩⟩

set_option maxRecDepth 100000 in
set_option maxHeartbeats 800000 in
theorem of_none (l b : List UInt8) (w : World) (hw : ∀ r : Rc, kw r ≠ (word l).1) : Calls Tryz.prog 194 #[.string (str (word l).1), .string (str b)] w (OfP w (word l).1 b) := by
  have wTime := word_not (hw (.time 0)) (show kw (.time 0) = [116, 105, 109, 101] from rfl)
  have wNext := word_not (hw (.next 0)) (show kw (.next 0) = [110, 101, 120, 116] from rfl)
  have wOwn := word_not (hw (.own ⟨0, 0, 0, 0, ⟨#[]⟩⟩)) (show kw (.own ⟨0, 0, 0, 0, ⟨#[]⟩⟩) = [111, 119, 110] from rfl)
  have wTake := word_not (hw (.take ⟨0, 0, 0, 0, ⟨#[]⟩⟩)) (show kw (.take ⟨0, 0, 0, 0, ⟨#[]⟩⟩) = [116, 97, 107, 101] from rfl)
  have wHeld := word_not (hw (.held ⟨0, 0, 0, 0, ⟨#[]⟩⟩)) (show kw (.held ⟨0, 0, 0, 0, ⟨#[]⟩⟩) = [104, 101, 108, 100] from rfl)
  have wInbox := word_not (hw (.inbox ⟨0, 0, 0, 0, ⟨#[]⟩⟩)) (show kw (.inbox ⟨0, 0, 0, 0, ⟨#[]⟩⟩) = [105, 110, 98, 111, 120] from rfl)
  have wLet := word_not (hw (.lets ⟨0, 0, 0⟩)) (show kw (.lets ⟨0, 0, 0⟩) = [108, 101, 116] from rfl)
  have wEat := word_not (hw (.eat ⟨0, 0, 0⟩)) (show kw (.eat ⟨0, 0, 0⟩) = [101, 97, 116] from rfl)
  have wMark := word_not (hw (.mark ⟨0, 0, 0⟩)) (show kw (.mark ⟨0, 0, 0⟩) = [109, 97, 114, 107] from rfl)
  have HO := Lib.hid (ro_other (b := b) hw)
  clear hw
  generalize str (word l).1 = wd at wTime wNext wOwn wTake wHeld wInbox wLet wEat wMark ⊢
  generalize str b = s
  go_enter Tryz.func194, Tryz.ntmps194
  go_wp2
  exact ⟨rfl, Below.refl _ _, .inr ⟨HO.out, rfl⟩⟩

theorem recordOf_any (l b : List UInt8) (hs : b.length ≤ 1048576) (w : World) (hTab : Tab w) (hErr : Errs w) : Calls Tryz.prog 194 #[.string (str (word l).1), .string (str b)] w (OfP w (word l).1 b) := by
  by_cases h0 : (word l).1 = kwTime
  · rw [h0]; exact of_time b hs w hErr
  by_cases h1 : (word l).1 = kwNext
  · rw [h1]; exact of_next b hs w hErr
  by_cases h2 : (word l).1 = kwOwn
  · rw [h2]; exact of_own b hs w hTab hErr
  by_cases h3 : (word l).1 = kwTake
  · rw [h3]; exact of_take b hs w hTab hErr
  by_cases h4 : (word l).1 = kwHeld
  · rw [h4]; exact of_held b hs w hTab hErr
  by_cases h5 : (word l).1 = kwInbox
  · rw [h5]; exact of_inbox b hs w hTab hErr
  by_cases h6 : (word l).1 = kwLet
  · rw [h6]; exact of_lets b hs w hErr
  by_cases h7 : (word l).1 = kwEat
  · rw [h7]; exact of_eat b hs w hErr
  by_cases h8 : (word l).1 = kwMark
  · rw [h8]; exact of_mark b hs w hErr
  refine of_none l b w fun r e => ?_
  cases r
  · exact h0 e.symm
  · exact h1 e.symm
  · exact h2 e.symm
  · exact h3 e.symm
  · exact h4 e.symm
  · exact h5 e.symm
  · exact h6 e.symm
  · exact h7 e.symm
  · exact h8 e.symm

def RrP (w : World) (l : List UInt8) (e : Ending) (w' : World) : Prop := Below w.heap.size w w' ∧ ((∃ r, RR l (some r) ∧ e = .returned (rcV r)) ∨ (RR l none ∧ e = Imp))

set_option maxRecDepth 100000 in
set_option maxHeartbeats 800000 in
theorem readRecord_any (l : List UInt8) (hs : l.length ≤ 1048576) (w : World) (hTab : Tab w) (hErr : Errs w) : Calls Tryz.prog 120 #[.string (str l)] w (RrP w l) := by
  have hwl := word_len l
  have HW := Lib.hid (fun W => cut_any (str l) (by rw [str_size]; omega) W)
  unfold CutPost at HW
  rw [data_str] at HW
  have HR := Lib.hid (fun V h1 h2 => recordOf_any l (word l).2 (by omega) V h1 h2)
  unfold OfP at HR
  have H1 := Lib.hid (fun r (h : RO (word l).1 (word l).2 (some r)) (e : l = txL r) => rr_some h e)
  have H2 := Lib.hid (fun (h : RO (word l).1 (word l).2 none) => rr_none h)
  have H3 := Lib.hid (fun r (h : RO (word l).1 (word l).2 (some r)) (e : l ≠ txL r) => rr_other h e)
  have HX := Lib.hid (fun r (h : RO (word l).1 (word l).2 (some r)) => (show ntIn r from h.1))
  have HM := Lib.hid mText
  have HC := Lib.hid callRc
  have hsl : (str l).size ≤ maxLen := by rw [str_size]; unfold maxLen; omega
  clear hwl
  generalize RO (word l).1 (word l).2 = ro at HR H1 H2 H3 HX
  generalize str (word l).1 = s1 at HW HR
  generalize str (word l).2 = s2 at HW HR
  go_enter Tryz.func120, Tryz.ntmps120
  go_wp2_with fail
  refine (HW.out _).mono ?_
  rintro e w1 ⟨fb, rfl, hB1⟩
  have HB1 := Lib.hid hB1
  have HT1 := Lib.hid (hTab.later hB1)
  have HE1 := Lib.hid (hErr.later hB1)
  clear hB1 HW hTab hErr
  go_wp2_with fail
  refine (HR.out _ HT1.out HE1.out).mono ?_
  rintro e w2 ⟨hB2, ⟨r, hro, hri, rfl⟩ | ⟨hro, rfl⟩⟩
  case inr =>
    have HB2 := Lib.hid (HB1.out.trans (hB2.mono HB1.out.size))
    have HQ := Lib.hid (H2.out hro)
    clear hB2 hro HR H1 H2 H3 HX
    go_wp2
    exact ⟨rfl, HB2.out, .inr ⟨HQ.out, rfl⟩⟩
  have hni := HX.out r hro
  have HT2 := Lib.hid (HT1.out.later hB2)
  have HB2 := Lib.hid (HB1.out.trans (hB2.mono HB1.out.size))
  have HX2 := Lib.hid (text_any r hni hri w2 HT2.out)
  unfold StrPost at HX2
  have hlx := txL_len hni hri
  have hm := fun V => HM.out r V
  have HV := Lib.hid (show rcV r = .iface (rcT r) (rcP r) from rfl)
  by_cases e1 : l = txL r
  · have HQ := Lib.hid (H1.out r hro e1)
    have hq : ((str (txL r)).toList == (str l).toList) = true := by rw [← e1]; exact beq_self_eq_true _
    clear e1 hro hri HR H1 H2 H3 HX hB2 hni HM
    generalize str (txL r) = tx at HX2 hlx hq
    generalize str l = sl at hq hsl ⊢
    have hcf := fun V => HC.out r V
    rw [HV.out]
    clear HC
    generalize rcT r = tt at hm HV ⊢
    generalize rcP r = pp at hm HX2 hcf HV ⊢
    generalize rcFn r = ff at hm HX2 hcf
    go_wp2_with fail
    refine HX2.out.mono ?_
    rintro e w3 ⟨rfl, hB3⟩
    have HB3 := Lib.hid (HB2.out.trans (hB3.mono HB2.out.size))
    clear hB3 HX2 hm hcf
    go_wp2_with fail
    refine (require_t _).mono ?_
    rintro e w4 ⟨rfl, rfl⟩
    go_wp2
    go_ret
    exact ⟨HB3.out, .inl ⟨r, HQ.out, congrArg Ending.returned HV.out.symm⟩⟩
  · have HQ := Lib.hid (H3.out r hro e1)
    have hq : ((str (txL r)).toList == (str l).toList) = false := toList_ne (fun e => e1 (str_inj e).symm)
    clear e1 hro hri HR H1 H2 H3 HX hB2 hni HM
    generalize str (txL r) = tx at HX2 hlx hq
    generalize str l = sl at hq hsl ⊢
    have hcf := fun V => HC.out r V
    rw [HV.out]
    clear HC HV
    generalize rcT r = tt at hm ⊢
    generalize rcP r = pp at hm HX2 hcf ⊢
    generalize rcFn r = ff at hm HX2 hcf
    go_wp2_with fail
    refine HX2.out.mono ?_
    rintro e w3 ⟨rfl, hB3⟩
    have HB3 := Lib.hid (HB2.out.trans (hB3.mono HB2.out.size))
    clear hB3 HX2 hm hcf
    go_wp2_with fail
    refine (require_f _).mono ?_
    rintro e w4 ⟨rfl, rfl⟩
    go_wp2
    exact ⟨rfl, HB3.out, .inr ⟨HQ.out, rfl⟩⟩
end Go.Proofs.YtjmmojjjopjdpaaGreatDoor.kp

/-
  Contract of (*impl.Keep).change: whatever the record.
-/
namespace Go.Proofs.YtjmmojjjopjdpaaGreatDoor.kp
open Go.ChangeShapes Go.WideShapes Go.ChangeAt Go.RowKit
open Go.Proofs.YtjmmojjjopjdpaaGreatDoor.wd Go.Proofs.YtjmmojjjopjdpaaGreatDoor.ow Go.Proofs.YtjmmojjjopjdpaaGreatDoor.rl Go.Proofs.YtjmmojjjopjdpaaGreatDoor.ok Go.Proofs.YtjmmojjjopjdpaaGreatDoor.nb Go.Proofs.YtjmmojjjopjdpaaGreatDoor.nx

theorem change_any (B : Nat) (W : World) (g q : Nat) (k : Kp) (a b c : Value) (r : Rc) (h : MK B W g k a b c) (hk : okK k = true) (hn : ntIn r) (hr : q < W.heap.size) (hng : q ≠ g) (hro : Off q a b c) :
    Calls Tryz.prog 119 #[.pointer (some ⟨g, 0, none⟩), rcV r] W (ChPost B W g q (applyS k r)) := by
  have hz := (sz_ok hk).up (show 12 ≤ 14 by omega)
  cases r with
  | time v => exact chg_time B W g q k a b c v h hz hr hng hro
  | next v => exact chg_next B W g q k a b c v h hz hr hng hro
  | own x => exact chg_own B W g q k a b c x h hz hr hng hro hk hn
  | take x => exact chg_take B W g q k a b c x h hz hr hng hro hn
  | held x => exact chg_held B W g q k a b c x h hz hr hng hro
  | inbox x => exact chg_inbox B W g q k a b c x h hz hr hng hro
  | lets m => exact chg_lets B W g q k a b c m h hz hr hng hro
  | eat m => exact chg_eat B W g q k a b c m h hz hr hng hro
  | mark m => exact chg_mark B W g q k a b c m h hz hr hng hro
end Go.Proofs.YtjmmojjjopjdpaaGreatDoor.kp

/-
  Contract of the function that impl.apply defers, in both modes.
-/
namespace Go.Proofs.YtjmmojjjopjdpaaGreatDoor.kp
open Go.ChangeShapes Go.WideShapes Go.ChangeAt Go.RowKit
open Go.Proofs.YtjmmojjjopjdpaaGreatDoor.wd

theorem ta_imp (w : World) : (Instr.typeAssert (.iface 167 (.agg #[])) 20 167 true).run Tryz.prog w = .ok (.tuple #[.agg #[], .bool true]) w := by kernel_rfl
theorem ta_nil (w : World) : (Instr.typeAssert .nilIface 20 167 true).run Tryz.prog w = .ok (.tuple #[.agg #[], .bool false]) w := by kernel_rfl

theorem alloc_cell {w : World} {p : Addr} {v : Value} (hp : p.block < w.heap.size) (hc : w.cell? p = some v) (o : Obj) : (w.alloc o).cell? p = some v :=
  (((Below.refl w.heap.size w).alloc (Nat.le_refl _) o).cell hp).trans hc
theorem alloc_frozen {w : World} {p : Addr} (hp : p.block < w.heap.size) (hz : w.frozen? p = false) (o : Obj) : (w.alloc o).frozen? p = false := by
  rw [World.frozen?_alloc_old w o p (by omega)]; exact hz

theorem catch_p (p : Addr) (x : Bool) (w : World) (hc : w.cell? p = some (.bool x)) (hz : w.frozen? p = false) (hp : p.block < w.heap.size) :
    CallsD Tryz.prog 118 #[.pointer (some p)] (.panicking [{ v := .iface 167 (.agg #[]), recovered := false }]) w fun e u' w' =>
      e = .returned (.tuple #[]) ∧ u' = .panicking [{ v := .iface 167 (.agg #[]), recovered := true }] ∧ w' = (w.alloc (.cells #[] 167)).setCell p (.bool false) := by
  have h1 := ta_imp
  have c1 := alloc_cell hp hc (.cells #[] 167)
  have z1 := alloc_frozen hp hz (.cells #[] 167)
  refine callsD_of_wpS Tryz.func118 rfl fun c₀ cs hu => ?_
  apply wpS_seq
  apply wpS_region
  simp [wpOpsS, go_sem, recoverD, hu, Tryz.ntmps118, Exit.thenS, h1]
  generalize w.alloc (.cells #[] 167) = V at c1 z1 ⊢
  apply wpS_seq
  apply wpS_region
  simp [wpOpsS, go_sem, Exit.thenS]
  refine wpS_cond (t := true) (by simp [Act.eval, Array.replicate]) ?_
  simp only [if_true]
  apply wpS_region
  simp [wpOpsS, go_sem, c1, z1, bodyPostS, results, Tryz.results118]

theorem catch_i (p : Addr) (w : World) :
    CallsD Tryz.prog 118 #[.pointer (some p)] .returning w fun e u' w' => e = .returned (.tuple #[]) ∧ u' = .returning ∧ w' = w.alloc (.cells #[] 167) := by
  have h1 := ta_nil
  refine callsD_of_wpS Tryz.func118 rfl fun c₀ cs hu => ?_
  apply wpS_seq
  apply wpS_region
  simp [wpOpsS, go_sem, recoverD, hu, Tryz.ntmps118, Exit.thenS, h1]
  generalize w.alloc (.cells #[] 167) = V
  apply wpS_seq
  apply wpS_region
  simp [wpOpsS, go_sem, Exit.thenS]
  refine wpS_cond (t := false) (by simp [Act.eval, Array.replicate]) ?_
  simp only [Bool.false_eq_true, if_false]
  refine wpS_of_wp (wp_skip ?_)
  cases c₀
  simp_all [bodyPostS, results, Tryz.results118]
end Go.Proofs.YtjmmojjjopjdpaaGreatDoor.kp

