/-
  Acts, as a slice of them lies in memory, and each call upon two tables, the program's and the document's, that lie beside each other, over this seat's translation; conditions: those that each law states.
-/
import Derived.Test.YtfkkdhgggocgjaaDoorTv
namespace Go.Proofs.YtfkkdhgggocgjaaDoor
open Go.RowKit

theorem add_add (a : Addr) (i j : Nat) : (a.add i).add j = a.add (i + j) := by
  unfold Addr.add
  by_cases hi : i = 0
  · subst hi; simp
  · by_cases hj : j = 0
    · subst hj; simp [hi]
    · simp [hi, hj, Nat.add_assoc]
/-- An act. -/
structure AcT where
  what : Nat
  page : Int
  n : Int
  pos : Nat
  by_ : UInt8
def AcT.Fit (x : AcT) : Prop := x.what < 256 ∧ (-32768 ≤ x.page ∧ x.page ≤ 32767) ∧ (-32768 ≤ x.n ∧ x.n ≤ 32767) ∧ x.pos < 256
def acC1 (x : AcT) : List Value := [.int .u8 (x.what : Nat), .int .i16 x.page, .int .i16 x.n, .int .u8 (x.pos : Nat), .int .u8 (x.by_.toNat : Nat)]
def acsC (l : List AcT) : List Value := l.flatMap acC1
theorem acsC_length : ∀ l : List AcT, (acsC l).length = l.length * 5
  | [] => rfl
  | x :: l => by
    have := acsC_length l
    unfold acsC at this ⊢
    rw [List.flatMap_cons, List.length_append, this]
    simp only [acC1, List.length_cons, List.length_nil]
    omega
theorem acsC_at : ∀ (l : List AcT) (k : Nat) (hk : k < l.length) (j : Nat) (_ : j < 5), (acsC l)[k * 5 + j]? = (acC1 l[k])[j]?
  | [], _, hk, _, _ => by simp at hk
  | x :: l, 0, _, j, hj => by
    unfold acsC
    rw [List.flatMap_cons, Nat.zero_mul, Nat.zero_add, List.getElem?_append_left (by show j < 5; exact hj)]
    rfl
  | x :: l, k + 1, hk, j, hj => by
    have ih := acsC_at l k (by simpa using hk) j hj
    unfold acsC at ih ⊢
    rw [List.flatMap_cons, List.getElem?_append_right (by show 5 ≤ _; omega)]
    rw [show (k + 1) * 5 + j - (acC1 x).length = k * 5 + j by show (k + 1) * 5 + j - 5 = _; omega, ih]
    rfl
/-- A slice of acts. -/
def Acs (w : World) (v : Value) (l : List AcT) : Prop := Sl 5 w v l.length (acsC l) ∧ ∀ x ∈ l, x.Fit

/-- Two tables beside each other, behind a world. -/
structure Pr (w : World) (pa ra : Nat) (s1 s2 : TB) (W : World) : Prop where
  p : PT W pa s1
  r : RT W ra s2
  np : w.heap.size ≤ pa
  nr : w.heap.size ≤ ra
  ne : pa ≠ ra
  g : w.grownBy W none
  h : Hd W
theorem Pr.keep0 {w : World} {pa ra : Nat} {s1 s2 : TB} {W W' : World} (h : Pr w pa ra s1 s2 W) (g : W.grownBy W' none) : Pr w pa ra s1 s2 W' := ⟨h.p.keep0 g, h.r.keep0 g, h.np, h.nr, h.ne, gb_trans h.g g, h.h.keep0 g⟩
/-- A store into a block that came later, and is neither table's. -/
theorem Pr.keep {w : World} {pa ra b : Nat} {s1 s2 : TB} {W W' : World} (h : Pr w pa ra s1 s2 W) (g : W.grownBy W' (some b)) (h1 : pa ≠ b) (h2 : ra ≠ b) (h3 : w.heap.size ≤ b) (h0 : 0 < w.heap.size) : Pr w pa ra s1 s2 W' := ⟨h.p.keep g (ne_some h1), h.r.keep g (ne_some h2), h.np, h.nr, h.ne, gb_step h.g g h3, h.h.keep g (ne_some (by omega))⟩
theorem Pr.pos {w : World} {pa ra : Nat} {s1 s2 : TB} {W : World} (_ : Pr w pa ra s1 s2 W) (h0 : 0 < w.heap.size) : 0 < w.heap.size := h0
theorem Pr.setP {w : World} {pa ra : Nat} {s1 s2 s : TB} {W W' : World} (h : Pr w pa ra s1 s2 W) (h0 : 0 < w.heap.size) (hp : PT W' pa s) (g : W.grownBy W' (some pa)) : Pr w pa ra s s2 W' :=
  ⟨hp, h.r.keep g (ne_some (Ne.symm h.ne)), h.np, h.nr, h.ne, gb_step h.g g h.np, h.h.keep g (ne_some (by have := h.np; omega))⟩
theorem Pr.setR {w : World} {pa ra : Nat} {s1 s2 s : TB} {W W' : World} (h : Pr w pa ra s1 s2 W) (h0 : 0 < w.heap.size) (hr : RT W' ra s) (g : W.grownBy W' (some ra)) : Pr w pa ra s1 s W' :=
  ⟨h.p.keep g (ne_some h.ne), hr, h.np, h.nr, h.ne, gb_step h.g g h.nr, h.h.keep g (ne_some (by have := h.nr; omega))⟩
section
variable {w : World} {pa ra : Nat} {s1 s2 : TB} {W : World}
theorem t_set (i v : Int) (h0 : 0 < w.heap.size) (h : Pr w pa ra s1 s2 W) : Calls Tryd.prog 8 #[.pointer (some ⟨pa, 0, none⟩), .int .i64 i, .int .i64 v] W fun e W' => e = .returned (.int .i64 (setE i v)) ∧ Pr w pa ra (setF s1 i v) s2 W' ∧ W.grownBy W' (some pa) :=
  (set_any pa s1 i v W h.p).mono fun _ _ x => ⟨x.1, h.setP h0 x.2.1 x.2.2, x.2.2⟩
theorem t_rset (i v : Int) (h0 : 0 < w.heap.size) (h : Pr w pa ra s1 s2 W) : Calls Tryd.prog 9 #[.pointer (some ⟨ra, 0, none⟩), .int .i64 i, .int .i64 v] W fun e W' => e = .returned (.int .i64 (setE i v)) ∧ Pr w pa ra s1 (setF s2 i v) W' ∧ W.grownBy W' (some ra) :=
  (rset_any ra s2 i v W h.r).mono fun _ _ x => ⟨x.1, h.setR h0 x.2.1 x.2.2, x.2.2⟩
theorem t_drop (i : Int) (h0 : 0 < w.heap.size) (h : Pr w pa ra s1 s2 W) : Calls Tryd.prog 10 #[.pointer (some ⟨pa, 0, none⟩), .int .i64 i] W fun e W' => e = .returned (.int .i64 (dropE s1 i)) ∧ Pr w pa ra (dropF s1 i) s2 W' ∧ W.grownBy W' (some pa) :=
  (drop_any pa s1 i W h.p).mono fun _ _ x => ⟨x.1, h.setP h0 x.2.1 x.2.2, x.2.2⟩
theorem t_rdrop (i : Int) (h0 : 0 < w.heap.size) (h : Pr w pa ra s1 s2 W) : Calls Tryd.prog 11 #[.pointer (some ⟨ra, 0, none⟩), .int .i64 i] W fun e W' => e = .returned (.int .i64 (dropE s2 i)) ∧ Pr w pa ra s1 (dropF s2 i) W' ∧ W.grownBy W' (some ra) :=
  (rdrop_any ra s2 i W h.r).mono fun _ _ x => ⟨x.1, h.setR h0 x.2.1 x.2.2, x.2.2⟩
theorem t_clean (h0 : 0 < w.heap.size) (h : Pr w pa ra s1 s2 W) : Calls Tryd.prog 16 #[.pointer (some ⟨pa, 0, none⟩)] W fun e W' => e = .returned (.tuple #[]) ∧ Pr w pa ra (cleanF s1) s2 W' ∧ W.grownBy W' (some pa) :=
  (clean_any pa s1 W h.p).mono fun _ _ x => ⟨x.1, h.setP h0 x.2.1 x.2.2, x.2.2⟩
theorem t_rclean (h0 : 0 < w.heap.size) (h : Pr w pa ra s1 s2 W) : Calls Tryd.prog 17 #[.pointer (some ⟨ra, 0, none⟩)] W fun e W' => e = .returned (.tuple #[]) ∧ Pr w pa ra s1 (cleanF s2) W' ∧ W.grownBy W' (some ra) :=
  (rclean_any ra s2 W h.r).mono fun _ _ x => ⟨x.1, h.setR h0 x.2.1 x.2.2, x.2.2⟩
theorem t_copy (h : Pr w pa ra s1 s2 W) : Calls Tryd.prog 18 #[.pointer (some ⟨pa, 0, none⟩)] W fun e W' => e = .returned (.pointer (some ⟨W.heap.size, 0, none⟩)) ∧ Pr w W.heap.size ra s1 s2 W' ∧ W.grownBy W' none :=
  (copy_any pa s1 W h.p).mono fun _ _ x => ⟨x.1, ⟨x.2.1, h.r.keep0 x.2.2, h.g.size, h.nr, Ne.symm (Nat.ne_of_lt h.r.lt), gb_trans h.g x.2.2, h.h.keep0 x.2.2⟩, x.2.2⟩
theorem t_rcopy (h : Pr w pa ra s1 s2 W) : Calls Tryd.prog 19 #[.pointer (some ⟨ra, 0, none⟩)] W fun e W' => e = .returned (.pointer (some ⟨W.heap.size, 0, none⟩)) ∧ Pr w pa W.heap.size s1 s2 W' ∧ W.grownBy W' none :=
  (rcopy_any ra s2 W h.r).mono fun _ _ x => ⟨x.1, ⟨h.p.keep0 x.2.2, x.2.1, h.np, h.g.size, Nat.ne_of_lt h.p.lt, gb_trans h.g x.2.2, h.h.keep0 x.2.2⟩, x.2.2⟩
theorem t_get (i : Int) (h : Pr w pa ra s1 s2 W) : Calls Tryd.prog 20 #[.pointer (some ⟨pa, 0, none⟩), .int .i64 i] W fun e W' => e = .returned (.int .i64 (getF s1 i : Nat)) ∧ W = W' := get_any pa s1 i W h.p
theorem t_rget (i : Int) (h : Pr w pa ra s1 s2 W) : Calls Tryd.prog 21 #[.pointer (some ⟨ra, 0, none⟩), .int .i64 i] W fun e W' => e = .returned (.int .i64 (getF s2 i : Nat)) ∧ W = W' := rget_any ra s2 i W h.r
theorem t_alike {s : TB} (h : Pr w pa ra s s W) : Calls Tryd.prog 22 #[.pointer (some ⟨pa, 0, none⟩), .pointer (some ⟨ra, 0, none⟩)] W fun e W' => e = .returned (.bool true) ∧ Pr w pa ra s s W' ∧ W.grownBy W' none :=
  (alike_any pa ra s W h.p h.r).mono fun _ _ x => ⟨x.1, h.keep0 x.2, x.2⟩
theorem t_rchunk (i : Int) (h : Pr w pa ra s1 s2 W) : Calls Tryd.prog 12 #[.pointer (some ⟨ra, 0, none⟩), .int .i64 i] W fun e W' => e = .returned (.string ⟨(chunkF s2.P i).toArray⟩) ∧ Pr w pa ra s1 s2 W' ∧ W.grownBy W' none :=
  (rchunk_any ra s2 i W h.r).mono fun _ _ x => ⟨x.1, h.keep0 x.2, x.2⟩
/-- What a Load answers: none, or a fault. -/
def Told (c : Nat × Nat) (W W' : World) (e : Ending) : Prop :=
  (c.1 = 0 → e = .returned .nilIface) ∧ (c.1 ≠ 0 → ∃ a : Nat, e = .returned (.iface 67 (.pointer (some ⟨a, 0, none⟩))) ∧ W.heap.size ≤ a ∧ Ft W' a (c.1 : Nat) (c.2 : Nat))
theorem t_load (i : Int) (t : ByteArray) (ht : t.size ≤ 9223372036854775807) (h0 : 0 < w.heap.size) (h : Pr w pa ra s1 s2 W) : Calls Tryd.prog 14 #[.pointer (some ⟨pa, 0, none⟩), .int .i64 i, .string t] W fun e W' => Told (loadC i t) W W' e ∧ Pr w pa ra (loadF s1 i t) s2 W' ∧ W.grownBy W' (some pa) :=
  (load_any pa s1 i t W h.p h.h ht).mono fun _ _ x => ⟨⟨x.2.2.1, x.2.2.2⟩, h.setP h0 x.1 x.2.1, x.2.1⟩
theorem t_rload (i : Int) (t : ByteArray) (ht : t.size ≤ 9223372036854775807) (h0 : 0 < w.heap.size) (h : Pr w pa ra s1 s2 W) : Calls Tryd.prog 15 #[.pointer (some ⟨ra, 0, none⟩), .int .i64 i, .string t] W fun e W' => e = .returned (.agg #[.int .i64 ((loadC i t).1 : Nat), .int .i64 ((loadC i t).2 : Nat)]) ∧ Pr w pa ra s1 (loadF s2 i t) W' ∧ W.grownBy W' (some ra) :=
  (rload_any ra s2 i t W h.r ht).mono fun _ _ x => ⟨x.1, h.setR h0 x.2.1 x.2.2, x.2.2⟩
theorem t_load_ok (i : Int) (t : ByteArray) (ht : t.size ≤ 9223372036854775807) (h0 : 0 < w.heap.size) (hc : (loadC i t).1 = 0) (h : Pr w pa ra s1 s2 W) : Calls Tryd.prog 14 #[.pointer (some ⟨pa, 0, none⟩), .int .i64 i, .string t] W fun e W' => e = .returned .nilIface ∧ Pr w pa ra (loadF s1 i t) s2 W' ∧ W.grownBy W' (some pa) :=
  (t_load i t ht h0 h).mono fun _ _ x => ⟨x.1.1 hc, x.2⟩
theorem t_load_bad (i : Int) (t : ByteArray) (c q : Nat) (ht : t.size ≤ 9223372036854775807) (h0 : 0 < w.heap.size) (hc : loadC i t = (c, q)) (hn : c ≠ 0) (h : Pr w pa ra s1 s2 W) : Calls Tryd.prog 14 #[.pointer (some ⟨pa, 0, none⟩), .int .i64 i, .string t] W fun e W' => ∃ a : Nat, e = .returned (.iface 67 (.pointer (some ⟨a, 0, none⟩))) ∧ W.heap.size ≤ a ∧ Ft W' a (c : Nat) (q : Nat) ∧ Pr w pa ra (loadF s1 i t) s2 W' ∧ W.grownBy W' (some pa) :=
  (t_load i t ht h0 h).mono fun _ _ x => by
    obtain ⟨a, h1, h2, h3⟩ := x.1.2 (by rw [hc]; exact hn)
    rw [hc] at h3
    exact ⟨a, h1, h2, h3, x.2⟩
theorem t_rload_is (i : Int) (t : ByteArray) (c q : Nat) (ht : t.size ≤ 9223372036854775807) (h0 : 0 < w.heap.size) (hc : loadC i t = (c, q)) (h : Pr w pa ra s1 s2 W) : Calls Tryd.prog 15 #[.pointer (some ⟨ra, 0, none⟩), .int .i64 i, .string t] W fun e W' => e = .returned (.agg #[.int .i64 (c : Nat), .int .i64 (q : Nat)]) ∧ Pr w pa ra s1 (loadF s2 i t) W' ∧ W.grownBy W' (some ra) := by
  have := t_rload i t ht h0 h
  rw [hc] at this
  exact this
end
theorem bs_keep {W W' : World} {B m cap b : Nat} {l : List UInt8} (h : Bs W (.slice (some ⟨B, 0, none⟩) m cap) l) (g : W.grownBy W' (some b)) (hb : B ≠ b) : Bs W' (.slice (some ⟨B, 0, none⟩) m cap) l := by
  obtain ⟨ao, c, h1, h2, h3, h4⟩ := h
  refine ⟨ao, c, h1, h2, h3, fun a e j u hj => ?_⟩
  have hB : (a.add j).block = B := by
    subst e
    injection h1 with e1 _ _
    have : a = ⟨B, 0, none⟩ := (Option.some.inj e1).symm
    rw [this, add_at]
  exact g.cell (h4 a e j u hj) (by rw [hB]; exact ne_some hb)
theorem chunkF_size (P : List Nat) (i : Int) (h : P.length = 960) : (⟨(chunkF P i).toArray⟩ : ByteArray).size ≤ 240 := by
  show (chunkF P i).toArray.size ≤ 240
  rw [List.size_toArray]
  unfold chunkF
  split
  · unfold chunkB; rw [chunkTo_length h (by omega) (by omega)]; omega
  · simp
theorem xor_some (x y : UInt8) : ∃ c : UInt8, bits .xor .u8 (x.toNat : Int) (y.toNat : Int) = (c.toNat : Int) := by
  have hx := x.toNat_lt
  have hy := y.toNat_lt
  generalize x.toNat = a at hx
  generalize y.toNat = b at hy
  have hlt : a ^^^ b < 2 ^ 8 := Nat.xor_lt_two_pow (by omega) (by omega)
  refine ⟨UInt8.ofNat (a ^^^ b), ?_⟩
  show IntKind.u8.wrap (((BitVec.ofInt 8 (a : Int) ^^^ BitVec.ofInt 8 (b : Int)).toNat : Nat) : Int) = _
  rw [BitVec.ofInt_natCast, BitVec.ofInt_natCast, BitVec.toNat_xor, BitVec.toNat_ofNat, BitVec.toNat_ofNat, Nat.mod_eq_of_lt (show a < 2 ^ 8 by omega), Nat.mod_eq_of_lt (show b < 2 ^ 8 by omega)]
  simp only [IntKind.wrap, IntKind.bits, IntKind.signed]; simp
  rw [Nat.mod_eq_of_lt hx, Nat.mod_eq_of_lt hy]
  omega
end Go.Proofs.YtfkkdhgggocgjaaDoor

