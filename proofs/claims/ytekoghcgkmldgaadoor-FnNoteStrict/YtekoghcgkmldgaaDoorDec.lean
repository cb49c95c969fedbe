/-
  Contract of spec.l6Dec at a number that is not negative: its numeral.
-/
import Derived.Test.YtekoghcgkmldgaaDoorDecPlain
import Derived.Test.YtekoghcgkmldgaaDoorIn0
import Derived.Test.YtekoghcgkmldgaaDoorWords
import Derived.Deep.RegionWith
import Derived.Laws.IdiomStrings
import Derived.Below
import Derived.Deep.Cut
namespace Go.Proofs.YtekoghcgkmldgaaDoor.dc
open Go.ChangeShapes Go.WideShapes Go.ChangeAt Go.RowKit
open Go.Proofs.YtekoghcgkmldgaaDoor.nb Go.Proofs.YtekoghcgkmldgaaDoor.ok Go.Proofs.YtekoghcgkmldgaaDoor.wd

def StrPost (w : World) (s : ByteArray) (e : Ending) (w' : World) : Prop := e = .returned (.string s) ∧ Below w.heap.size w w'

theorem conv_at (W : World) (g : Nat) (m : Int) (h0 : 0 ≤ m) (h : m < 256) (hc : W.cell? ⟨g, 0, none⟩ = some (.int .u8 m)) :
    (convert 22 9 (.slice (some ⟨g, 0, none⟩) 1 1)).run Tryd.prog W = .ok (.string ⟨#[UInt8.ofNat m.toNat]⟩) W := by
  obtain ⟨n, rfl⟩ := Int.eq_ofNat_of_zero_le h0
  refine run_convert_bytes_back (P := Tryd.prog) _ 22 9 5 ⟨g, 0, none⟩ 1 [UInt8.ofNat n] Tryd.underlying22 Tryd.underlying5 Tryd.underlying9 (fun j hj => ?_)
  have : j = 0 := by simpa using hj
  subst this
  have e : (⟨g, 0, none⟩ : Addr).add 0 = ⟨g, 0, none⟩ := by unfold Addr.add; split <;> simp_all
  rw [e, hc]
  simp
  omega
theorem conv_one (w : World) (m : Int) (h0 : 0 ≤ m) (h : m < 256) :
    (convert 22 9 (.slice (some ⟨w.heap.size, 0, none⟩) 1 1)).run Tryd.prog (w.alloc (.cells #[.int .u8 m] 5)) = .ok (.string ⟨#[UInt8.ofNat m.toNat]⟩) (w.alloc (.cells #[.int .u8 m] 5)) :=
  conv_at _ _ m h0 h ((Blk.new w 5 #[.int .u8 m]).cell 0)

theorem dec_small (n : Int) (h0 : 0 ≤ n) (h1 : n < 10) (w : World) :
    Calls Tryd.prog 20 #[.int .i64 n] w (StrPost w (str (dl n))) := by
  go_enter Tryd.func20, Tryd.ntmps20
  go_upto_region 6 with (fail)
  generalize decide (n < -9223372036854775807) = d4
  rename_i x1 x2 J hJ K hK
  clear x1 x2
  have hcv := conv_one w (48 + n) (by omega) (by omega)
  generalize hch : UInt8.ofNat (48 + n).toNat = ch at hcv
  have HCH := Lib.hid hch
  clear hch
  go_wp2
  go_ret
  have e : (48 + n).toNat = 48 + n.toNat := by omega
  have hR := HCH.out
  rw [e] at hR
  exact ⟨by rw [dl_one h0 h1, hR]; rfl, (Below.refl _ _).alloc (Nat.le_refl _) _⟩

theorem dec_big (n : Int) (h0 : 10 ≤ n) (h1 : n ≤ 9999) (IH : ∀ w, Calls Tryd.prog 20 #[.int .i64 (n / 10)] w (StrPost w (str (dl (n / 10))))) (w : World) :
    Calls Tryd.prog 20 #[.int .i64 n] w (StrPost w (str (dl n))) := by
  have hR := Lib.hid (show str (dl n) = str (dl (n / 10)) ++ str [UInt8.ofNat (48 + (n % 10).toNat)] by rw [dl_step h0, str_app])
  have H := Lib.hid IH
  clear IH
  have m0 : 0 ≤ n % 10 := by omega
  have m1 : n % 10 < 10 := by omega
  have hlen : (str (dl (n / 10))).size ≤ 10 := by rw [str_size]; have := dl_len (n := n / 10) (by omega); omega
  have HC := Lib.hid (fun (W : World) (g : Nat) (hc : W.cell? ⟨g, 0, none⟩ = some (.int .u8 (48 + n % 10))) => show (convert 22 9 (.slice (some ⟨g, 0, none⟩) 1 1)).run Tryd.prog W = .ok (.string (str [UInt8.ofNat (48 + (n % 10).toNat)])) W by
    have e : (48 + n % 10).toNat = 48 + (n % 10).toNat := by omega
    have := conv_at W g (48 + n % 10) (by omega) (by omega) hc
    rw [e] at this
    exact this)
  have hl2 : (str [UInt8.ofNat (48 + (n % 10).toNat)]).size = 1 := rfl
  have HL2 : (str [UInt8.ofNat (48 + (n % 10).toNat)]).size ≤ 1 := by rw [hl2]; exact Nat.le_refl _
  clear hl2
  generalize str [UInt8.ofNat (48 + (n % 10).toNat)] = ch at HC hR HL2
  generalize str (dl (n / 10)) = pre at H hR hlen
  go_enter Tryd.func20, Tryd.ntmps20
  go_upto_region 7 with (fail)
  generalize decide (n < -9223372036854775807) = d4
  rename_i x1 x2 x3 K hK
  clear x1 x2 x3
  have e1 : IntKind.i64.wrap (n.tdiv 10) = n / 10 := by rw [Int.tdiv_eq_ediv_of_nonneg (by omega), IntKind.wrap_i64]; omega
  have e2 : n.tmod 10 = n % 10 := Int.tmod_eq_emod_of_nonneg (by omega)
  have e3 : IntKind.i64.wrap (48 + n % 10) = 48 + n % 10 := by rw [IntKind.wrap_i64]; omega
  have e4 : IntKind.u8.wrap (48 + n % 10) = 48 + n % 10 := by simp [IntKind.wrap, IntKind.bits, IntKind.signed]; omega
  have hcv := HC.out
  have hadd : ∀ W : World, (Op.stringOp .add pre ch).run Tryd.prog W = .ok (.string (pre ++ ch)) W := fun W => run_string_add_sum W pre ch (by omega)
  clear HC
  go_region_with ((go_at_call 20; refine (H.out _).mono ?_; rintro e w2 ⟨rfl, hB2⟩; first | (have s0 := (hB2.cell (p := ⟨w.heap.size, 0, none⟩) (Blk.new w 5 #[.int .u8 (48 + n % 10)]).lt).trans ((Blk.new w 5 #[.int .u8 (48 + n % 10)]).cell 0); simp only [List.getElem?_toArray, List.getElem?_cons_zero] at s0) | skip))
  · go_wp2
    go_ret
    exact ⟨by rw [hR.out]; rfl, (show Below w.heap.size w w2 from ⟨hB2.os, hB2.tape, hB2.output, hB2.size, hB2.block⟩).alloc hB2.size _⟩
  all_goals
    go_wp2
    go_ret
    exact ⟨by rw [hR.out]; rfl, ((Below.refl w.heap.size w).alloc (Nat.le_refl _) _).trans ((show Below (w.alloc (.cells #[.int .u8 (48 + n % 10)] 5)).heap.size (w.alloc (.cells #[.int .u8 (48 + n % 10)] 5)) w2 from ⟨hB2.os, hB2.tape, hB2.output, hB2.size, hB2.block⟩).mono (by simp))⟩

theorem dec_any (n : Int) (h0 : 0 ≤ n) (h1 : n ≤ 9999) (w : World) :
    Calls Tryd.prog 20 #[.int .i64 n] w (StrPost w (str (dl n))) := by
  have two : ∀ m : Int, 0 ≤ m → m ≤ 99 → ∀ W, Calls Tryd.prog 20 #[.int .i64 m] W (StrPost W (str (dl m))) := fun m a b W => by
    by_cases h : m < 10
    · exact dec_small m a h W
    · exact dec_big m (by omega) (by omega) (fun V => dec_small (m / 10) (by omega) (by omega) V) W
  have three : ∀ m : Int, 0 ≤ m → m ≤ 999 → ∀ W, Calls Tryd.prog 20 #[.int .i64 m] W (StrPost W (str (dl m))) := fun m a b W => by
    by_cases h : m < 10
    · exact dec_small m a h W
    · exact dec_big m (by omega) (by omega) (fun V => two (m / 10) (by omega) (by omega) V) W
  by_cases h : n < 10
  · exact dec_small n h0 h w
  · exact dec_big n (by omega) (by omega) (fun V => three (n / 10) (by omega) (by omega) V) w
end Go.Proofs.YtekoghcgkmldgaaDoor.dc
