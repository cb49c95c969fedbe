/-
  Plain: a frame, its bytes, their sum; what is read back from bytes. Nothing here speaks of a program.
-/
import Derived.Test.YtgihbilpimempaaDoorNext
import Derived.Test.YtgihbilpimempaaDoorCutPlain
namespace Go.Proofs.YtgihbilpimempaaDoor.fr
open Go.Proofs.YtgihbilpimempaaDoor.nb Go.Proofs.YtgihbilpimempaaDoor.nx Go.Proofs.YtgihbilpimempaaDoor.cp

/-- a frame: kind, from where, to where; the message's source, number, end and time; size, number of the mixed block, data -/
structure Fr where
  k : Int
  s : Int
  d : Int
  f : Int
  n : Int
  t : Int
  u : Int
  z : Int
  m : Int
  x : ByteArray

def frv (F : Fr) : Value := .agg #[.int .i64 F.k, .int .i64 F.s, .int .i64 F.d, .int .i64 F.f, .int .i64 F.n, .int .i64 F.t, .int .i64 F.u, .int .i64 F.z, .int .i64 F.m, .string F.x]
def fr0 : Fr := ⟨0, 0, 0, 0, 0, 0, 0, 0, 0, ⟨#[]⟩⟩

def okHead (F : Fr) : Bool := inB F.s 0 3 && inB F.d 0 3 && inB F.f 0 3 && inB F.n 1 99 && inB F.t 0 3 && inB F.u 1 999
def okPiece (F : Fr) : Bool := decide (nxt F.s F.t = F.d) && inB F.z 1 24 && inB F.m 0 999 && decide (F.x.size = 4)
def okAns (F : Fr) : Bool := decide (nxt F.d F.t = F.s) && decide (F.z = 0) && decide (F.m = 0) && decide (F.x.size = 0)
def okF (F : Fr) : Bool := inB F.k 1 3 && okHead F && (if F.k = 1 then okPiece F else okAns F)

/-- a number as a byte; a byte of a list as a number -/
def b8 (n : Int) : UInt8 := UInt8.ofNat n.toNat
theorem b8_nat {n : Int} (h0 : 0 ≤ n) (h1 : n ≤ 255) : ((b8 n).toNat : Int) = n := by
  unfold b8
  rw [UInt8.toNat_ofNat']
  omega
theorem b8_back (b : UInt8) : b8 (b.toNat : Int) = b := by
  unfold b8
  rw [Int.toNat_natCast]
  exact UInt8.ofNat_toNat
def vl (l : List UInt8) (i : Nat) : Int := ((l.getD i 0).toNat : Int)
theorem vl_lo (l : List UInt8) (i : Nat) : 0 ≤ vl l i := by unfold vl; omega
theorem vl_hi (l : List UInt8) (i : Nat) : vl l i ≤ 255 := by
  unfold vl
  have := (l.getD i 0).toNat_lt
  omega
theorem vl_b8 (l : List UInt8) (i : Nat) : b8 (vl l i) = l.getD i 0 := b8_back _

def two (n : Int) : List UInt8 := [b8 (n / 256), b8 (n % 256)]
theorem two_len (n : Int) : (two n).length = 2 := rfl
theorem two_eq {n m : Int} (h0 : 0 ≤ n) (h1 : n ≤ 65535) (k0 : 0 ≤ m) (k1 : m ≤ 65535) (h : two n = two m) : n = m := by
  unfold two at h
  injection h with e1 h
  injection h with e2 _
  have a1 : ((b8 (n / 256)).toNat : Int) = ((b8 (m / 256)).toNat : Int) := by rw [e1]
  have a2 : ((b8 (n % 256)).toNat : Int) = ((b8 (m % 256)).toNat : Int) := by rw [e2]
  rw [b8_nat (by omega) (by omega), b8_nat (by omega) (by omega)] at a1 a2
  omega

def head (F : Fr) : List UInt8 := [b8 F.k, b8 F.s, b8 F.d, b8 F.f, b8 F.n, b8 F.t] ++ two F.u
def tail (F : Fr) : List UInt8 := if F.k = 1 then [b8 F.z] ++ two F.m ++ F.x.data.toList else []
def body (F : Fr) : List UInt8 := head F ++ tail F

/-- the sum of the first k bytes -/
def sm (l : List UInt8) : Nat → Int
  | 0 => 0
  | k + 1 => (sm l k + ((k : Int) % 1000 + 1) * vl l k) % 65521
theorem sm_lo (l : List UInt8) (k : Nat) : 0 ≤ sm l k := by
  cases k with
  | zero => exact Int.le_refl _
  | succ k => exact Int.emod_nonneg _ (by omega)
theorem sm_hi (l : List UInt8) (k : Nat) : sm l k ≤ 65520 := by
  cases k with
  | zero => simp [sm]
  | succ k =>
    have := Int.emod_lt_of_pos (sm l k + ((k : Int) % 1000 + 1) * vl l k) (b := 65521) (by omega)
    show (sm l k + ((k : Int) % 1000 + 1) * vl l k) % 65521 ≤ 65520
    omega
def smL (l : List UInt8) : Int := sm l l.length
theorem sm_same {l l' : List UInt8} : ∀ k, (∀ i, i < k → vl l i = vl l' i) → sm l k = sm l' k
  | 0, _ => rfl
  | k + 1, h => by
    show (sm l k + ((k : Int) % 1000 + 1) * vl l k) % 65521 = (sm l' k + ((k : Int) % 1000 + 1) * vl l' k) % 65521
    rw [sm_same k (fun i hi => h i (by omega)), h k (by omega)]

/-- the bytes of a frame -/
def pk (F : Fr) : List UInt8 := if okF F then body F ++ two (smL (body F)) else []
theorem pk_ok {F : Fr} (h : okF F = true) : pk F = body F ++ two (smL (body F)) := by unfold pk; rw [if_pos h]
theorem pk_no {F : Fr} (h : okF F = false) : pk F = [] := by unfold pk; rw [h]; rfl

theorem okF_parts {F : Fr} (h : okF F = true) : (1 ≤ F.k ∧ F.k ≤ 3) ∧ (0 ≤ F.s ∧ F.s ≤ 3) ∧ (0 ≤ F.d ∧ F.d ≤ 3) ∧ (0 ≤ F.f ∧ F.f ≤ 3) ∧ (1 ≤ F.n ∧ F.n ≤ 99) ∧ (0 ≤ F.t ∧ F.t ≤ 3) ∧ (1 ≤ F.u ∧ F.u ≤ 999) ∧ (if F.k = 1 then okPiece F else okAns F) = true := by
  unfold okF okHead at h
  simp only [Bool.and_eq_true, inB_iff] at h
  obtain ⟨⟨a, ⟨⟨⟨⟨b, c⟩, d⟩, e⟩, f⟩, g⟩, i⟩ := h
  exact ⟨a, b, c, d, e, f, g, i⟩
theorem okPiece_parts {F : Fr} (h : okPiece F = true) : nxt F.s F.t = F.d ∧ (1 ≤ F.z ∧ F.z ≤ 24) ∧ (0 ≤ F.m ∧ F.m ≤ 999) ∧ F.x.size = 4 := by
  unfold okPiece at h
  simp only [Bool.and_eq_true, inB_iff, decide_eq_true_eq] at h
  exact ⟨h.1.1.1, h.1.1.2, h.1.2, h.2⟩
theorem okAns_parts {F : Fr} (h : okAns F = true) : nxt F.d F.t = F.s ∧ F.z = 0 ∧ F.m = 0 ∧ F.x.size = 0 := by
  unfold okAns at h
  simp only [Bool.and_eq_true, decide_eq_true_eq] at h
  exact ⟨h.1.1.1, h.1.1.2, h.1.2, h.2⟩
theorem okF_piece {F : Fr} (h : okF F = true) (hk : F.k = 1) : nxt F.s F.t = F.d ∧ (1 ≤ F.z ∧ F.z ≤ 24) ∧ (0 ≤ F.m ∧ F.m ≤ 999) ∧ F.x.size = 4 := by
  have := (okF_parts h).2.2.2.2.2.2.2
  rw [if_pos hk] at this
  exact okPiece_parts this
theorem okF_ans {F : Fr} (h : okF F = true) (hk : F.k ≠ 1) : nxt F.d F.t = F.s ∧ F.z = 0 ∧ F.m = 0 ∧ F.x.size = 0 := by
  have := (okF_parts h).2.2.2.2.2.2.2
  rw [if_neg hk] at this
  exact okAns_parts this

theorem head_len (F : Fr) : (head F).length = 8 := rfl
theorem tail_ans {F : Fr} (hk : F.k ≠ 1) : tail F = [] := if_neg hk
theorem tail_piece {F : Fr} (hk : F.k = 1) : tail F = [b8 F.z] ++ two F.m ++ F.x.data.toList := if_pos hk
theorem body_len_piece {F : Fr} (hk : F.k = 1) (hx : F.x.size = 4) : (body F).length = 15 := by
  have hx' : F.x.data.toList.length = 4 := by simpa using hx
  unfold body
  rw [tail_piece hk]
  simp only [List.length_append, head_len, two_len, List.length_cons, List.length_nil, hx']
theorem body_len_ans {F : Fr} (hk : F.k ≠ 1) : (body F).length = 8 := by
  unfold body
  rw [tail_ans hk, List.append_nil, head_len]
theorem pk_len_piece {F : Fr} (h : okF F = true) (hk : F.k = 1) : (pk F).length = 17 := by
  rw [pk_ok h, List.length_append, two_len, body_len_piece hk (okF_piece h hk).2.2.2]
theorem pk_len_ans {F : Fr} (h : okF F = true) (hk : F.k ≠ 1) : (pk F).length = 10 := by
  rw [pk_ok h, List.length_append, two_len, body_len_ans hk]
theorem pk_len (F : Fr) : (pk F).length = 0 ∨ (pk F).length = 10 ∨ (pk F).length = 17 := by
  cases h : okF F with
  | false => rw [pk_no h]; exact .inl rfl
  | true =>
    by_cases hk : F.k = 1
    · exact .inr (.inr (pk_len_piece h hk))
    · exact .inr (.inl (pk_len_ans h hk))

/-- four bytes of a list as a text -/
def four (l : List UInt8) (i : Nat) : ByteArray := ⟨#[l.getD i 0, l.getD (i + 1) 0, l.getD (i + 2) 0, l.getD (i + 3) 0]⟩
theorem four_size (l : List UInt8) (i : Nat) : (four l i).size = 4 := rfl
/-- what a frame's bytes say, if they are ones -/
def psr (l : List UInt8) : Fr :=
  if 10 < l.length then ⟨vl l 0, vl l 1, vl l 2, vl l 3, vl l 4, vl l 5, vl l 6 * 256 + vl l 7, vl l 8, vl l 9 * 256 + vl l 10, four l 11⟩
  else ⟨vl l 0, vl l 1, vl l 2, vl l 3, vl l 4, vl l 5, vl l 6 * 256 + vl l 7, 0, 0, ⟨#[]⟩⟩
/-- are these bytes a frame's? -/
def isF (l : List UInt8) : Bool := decide ((l.length = 10 ∨ l.length = 17) ∧ pk (psr l) = l)
def unp (l : List UInt8) : Fr := if isF l then psr l else fr0

theorem list10 {l : List UInt8} (h : l.length = 10) : ∃ a b c d e f g i j k, l = [a, b, c, d, e, f, g, i, j, k] := by
  match l, h with
  | [a, b, c, d, e, f, g, i, j, k], _ => exact ⟨a, b, c, d, e, f, g, i, j, k, rfl⟩
theorem list17 {l : List UInt8} (h : l.length = 17) : ∃ a b c d e f g i j k m n o p q r s, l = [a, b, c, d, e, f, g, i, j, k, m, n, o, p, q, r, s] := by
  match l, h with
  | [a, b, c, d, e, f, g, i, j, k, m, n, o, p, q, r, s], _ => exact ⟨a, b, c, d, e, f, g, i, j, k, m, n, o, p, q, r, s, rfl⟩

theorem two_bytes (a b : UInt8) : two ((a.toNat : Int) * 256 + (b.toNat : Int)) = [a, b] := by
  have h := b.toNat_lt
  unfold two
  rw [show ((a.toNat : Int) * 256 + (b.toNat : Int)) / 256 = (a.toNat : Int) by omega, show ((a.toNat : Int) * 256 + (b.toNat : Int)) % 256 = (b.toNat : Int) by omega, b8_back, b8_back]

theorem psr10 (a b c d e f g i j k : UInt8) : psr [a, b, c, d, e, f, g, i, j, k] = ⟨a.toNat, b.toNat, c.toNat, d.toNat, e.toNat, f.toNat, (g.toNat : Int) * 256 + i.toNat, 0, 0, ⟨#[]⟩⟩ := rfl
theorem psr17 (a b c d e f g i j k m n o p q r s : UInt8) : psr [a, b, c, d, e, f, g, i, j, k, m, n, o, p, q, r, s] = ⟨a.toNat, b.toNat, c.toNat, d.toNat, e.toNat, f.toNat, (g.toNat : Int) * 256 + i.toNat, j.toNat, (k.toNat : Int) * 256 + m.toNat, ⟨#[n, o, p, q]⟩⟩ := rfl

/-- the body of what ten bytes say: the first eight of them -/
theorem body_psr10 {l : List UInt8} (h : l.length = 10) (hk : vl l 0 ≠ 1) : body (psr l) = l.take 8 := by
  obtain ⟨a, b, c, d, e, f, g, i, j, k, rfl⟩ := list10 h
  unfold body
  rw [tail_ans (show (psr [a, b, c, d, e, f, g, i, j, k]).k ≠ 1 from hk), psr10]
  unfold head
  simp only [b8_back, two_bytes]
  rfl
theorem body_psr17 {l : List UInt8} (h : l.length = 17) (hk : vl l 0 = 1) : body (psr l) = l.take 15 := by
  obtain ⟨a, b, c, d, e, f, g, i, j, k, m, n, o, p, q, r, s, rfl⟩ := list17 h
  unfold body
  rw [tail_piece (show (psr [a, b, c, d, e, f, g, i, j, k, m, n, o, p, q, r, s]).k = 1 from hk), psr17]
  unfold head
  simp only [b8_back, two_bytes]
  rfl
theorem psr_k (l : List UInt8) : (psr l).k = vl l 0 := by unfold psr; split <;> rfl

/-- how many bytes a frame of this beginning has -/
def lenOf (l : List UInt8) : Nat := if vl l 0 = 1 then 17 else 10
theorem lenOf_cases (l : List UInt8) : vl l 0 = 1 ∧ lenOf l = 17 ∨ vl l 0 ≠ 1 ∧ lenOf l = 10 := by
  unfold lenOf
  by_cases h : vl l 0 = 1
  · exact .inl ⟨h, if_pos h⟩
  · exact .inr ⟨h, if_neg h⟩
/-- the same said in the order in which a reader goes: the length, the sum, the frame -/
def acc (l : List UInt8) : Bool := decide (l.length = lenOf l) && decide (vl l (l.length - 2) * 256 + vl l (l.length - 1) = sm l (l.length - 2)) && okF (psr l)

theorem sm_take (l : List UInt8) (k : Nat) (h : k ≤ l.length) : smL (l.take k) = sm l k := by
  unfold smL
  rw [List.length_take, Nat.min_eq_left h]
  exact sm_same k fun i hi => by
    unfold vl
    rw [List.getD_eq_getElem?_getD, List.getD_eq_getElem?_getD, List.getElem?_take_of_lt hi]
theorem last2 {l : List UInt8} {n : Nat} (h : l.length = n + 2) : l.drop n = two (vl l n * 256 + vl l (n + 1)) := by
  have h1 : n < l.length := by omega
  have h2 : n + 1 < l.length := by omega
  rw [List.drop_eq_getElem_cons h1, List.drop_eq_getElem_cons h2, List.drop_eq_nil_of_le (by omega)]
  unfold vl
  rw [two_bytes, List.getD_eq_getElem?_getD, List.getD_eq_getElem?_getD, List.getElem?_eq_getElem h1, List.getElem?_eq_getElem h2]
  rfl

theorem isF_len {l : List UInt8} (h : isF l = true) : l.length = lenOf l := by
  obtain ⟨hl, he⟩ := of_decide_eq_true h
  have hok : okF (psr l) = true := by
    cases hc : okF (psr l) with
    | true => rfl
    | false => rw [pk_no hc] at he; rw [← he] at hl; simp at hl
  by_cases hk : vl l 0 = 1
  · have := pk_len_piece hok (by rw [psr_k]; exact hk)
    rw [he] at this
    unfold lenOf
    rw [if_pos hk, this]
  · have := pk_len_ans hok (by rw [psr_k]; exact hk)
    rw [he] at this
    unfold lenOf
    rw [if_neg hk, this]

theorem body_psr {l : List UInt8} (h : l.length = lenOf l) : body (psr l) = l.take (l.length - 2) := by
  rcases lenOf_cases l with ⟨hk, e⟩ | ⟨hk, e⟩
  · rw [body_psr17 (by omega) hk, h, e]
  · rw [body_psr10 (by omega) hk, h, e]

theorem isF_acc (l : List UInt8) : isF l = acc l := by
  by_cases hl : l.length = lenOf l
  · have hb := body_psr hl
    have hc := lenOf_cases l
    have h2 : l.length = (l.length - 2) + 2 := by omega
    have h10 : l.length = 10 ∨ l.length = 17 := by omega
    have hd := last2 h2
    have hs := sm_take l (l.length - 2) (by omega)
    have e2 : l.length - 2 + 1 = l.length - 1 := by omega
    rw [e2] at hd
    unfold isF acc
    cases hok : okF (psr l) with
    | false =>
      rw [pk_no hok, Bool.and_false]
      refine decide_eq_false fun h => ?_
      have := h.2
      rw [← this] at h10
      simp at h10
    | true =>
      rw [Bool.and_true, decide_eq_true hl, Bool.true_and, pk_ok hok, hb, hs]
      have l0 := vl_lo l (l.length - 2)
      have l1 := vl_hi l (l.length - 2)
      have l2 := vl_lo l (l.length - 1)
      have l3 := vl_hi l (l.length - 1)
      have s0 := sm_lo l (l.length - 2)
      have s1 := sm_hi l (l.length - 2)
      congr 1
      refine propext ⟨fun h => ?_, fun h => ⟨h10, ?_⟩⟩
      · have hh : List.take (l.length - 2) l ++ two (sm l (l.length - 2)) = List.take (l.length - 2) l ++ List.drop (l.length - 2) l := by
          rw [List.take_append_drop]; exact h.2
        have := List.append_cancel_left hh
        rw [hd] at this
        exact (two_eq (by omega) (by omega) (by omega) (by omega) this).symm
      · rw [← h, ← hd, List.take_append_drop]
  · have h1 : acc l = false := by unfold acc; rw [decide_eq_false hl]; rfl
    rw [h1]
    cases hi : isF l with
    | false => rfl
    | true => exact absurd (isF_len hi) hl

/-- a frame is read back from its bytes -/
theorem psr_pk {F : Fr} (h : okF F = true) : psr (pk F) = F := by
  obtain ⟨k, s, d, f, n, t, u, z, m, x⟩ := F
  obtain ⟨⟨k0, k1⟩, ⟨s0, s1⟩, ⟨d0, d1⟩, ⟨f0, f1⟩, ⟨n0, n1⟩, ⟨t0, t1⟩, ⟨u0, u1⟩, _⟩ := okF_parts h
  simp only at k0 k1 s0 s1 d0 d1 f0 f1 n0 n1 t0 t1 u0 u1
  have eu : ((b8 (u / 256)).toNat : Int) * 256 + ((b8 (u % 256)).toNat : Int) = u := by
    rw [b8_nat (by omega) (by omega), b8_nat (by omega) (by omega)]; omega
  by_cases hk : k = 1
  · obtain ⟨_, ⟨z0, z1⟩, ⟨m0, m1⟩, hx⟩ := okF_piece h hk
    simp only at z0 z1 m0 m1 hx
    have em : ((b8 (m / 256)).toNat : Int) * 256 + ((b8 (m % 256)).toNat : Int) = m := by
      rw [b8_nat (by omega) (by omega), b8_nat (by omega) (by omega)]; omega
    rw [pk_ok h]
    generalize smL _ = q
    unfold body
    rw [tail_piece hk]
    obtain ⟨⟨xs⟩⟩ := x
    match xs, hx with
    | [x0, x1, x2, x3], _ =>
      show psr [b8 k, b8 s, b8 d, b8 f, b8 n, b8 t, b8 (u / 256), b8 (u % 256), b8 z, b8 (m / 256), b8 (m % 256), x0, x1, x2, x3, b8 (q / 256), b8 (q % 256)] = _
      rw [psr17, eu, em, b8_nat (by omega) (by omega), b8_nat (by omega) (by omega), b8_nat (by omega) (by omega), b8_nat (by omega) (by omega), b8_nat (by omega) (by omega), b8_nat (by omega) (by omega), b8_nat (by omega) (by omega)]
  · obtain ⟨_, hz, hm, hx⟩ := okF_ans h hk
    simp only at hz hm hx
    subst hz; subst hm
    rw [pk_ok h]
    generalize smL _ = q
    unfold body
    rw [tail_ans hk]
    obtain ⟨⟨xs⟩⟩ := x
    match xs, hx with
    | [], _ =>
      show psr [b8 k, b8 s, b8 d, b8 f, b8 n, b8 t, b8 (u / 256), b8 (u % 256), b8 (q / 256), b8 (q % 256)] = _
      rw [psr10, eu, b8_nat (by omega) (by omega), b8_nat (by omega) (by omega), b8_nat (by omega) (by omega), b8_nat (by omega) (by omega), b8_nat (by omega) (by omega), b8_nat (by omega) (by omega)]
theorem pk_isF {F : Fr} (h : okF F = true) : isF (pk F) = true := by
  have hl := pk_len F
  have : (pk F).length ≠ 0 := by
    by_cases hk : F.k = 1
    · rw [pk_len_piece h hk]; omega
    · rw [pk_len_ans h hk]; omega
  exact decide_eq_true ⟨by omega, by rw [psr_pk h]⟩
theorem unp_pk {F : Fr} (h : okF F = true) : unp (pk F) = F := by unfold unp; rw [if_pos (pk_isF h), psr_pk h]
theorem isF_ok {l : List UInt8} (h : isF l = true) : okF (psr l) = true := by
  rw [isF_acc] at h
  unfold acc at h
  simp only [Bool.and_eq_true] at h
  exact h.2
theorem isF_pk {l : List UInt8} (h : isF l = true) : pk (psr l) = l := (of_decide_eq_true h).2
end Go.Proofs.YtgihbilpimempaaDoor.fr
