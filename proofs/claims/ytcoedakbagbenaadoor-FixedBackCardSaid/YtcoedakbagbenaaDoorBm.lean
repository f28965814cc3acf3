/-
  Mathematics and laws on memory for FixedBack: the bytes of things that are laid one behind the other, where each begins, what is read of them at its place, whole or cut; conditions: those that each law states.
-/
import Derived.Test.YtcoedakbagbenaaDoorWorks
import Derived.Test.YtcoedakbagbenaaDoorRn
import Derived.Deep.RegionHeld3
import Derived.IntWalk
namespace Go.Proofs.YtcoedakbagbenaaDoor
open Go.RowKit

/-- The bytes of one thing. -/
def enc1 (wd n : Nat) (s : ByteArray) : List UInt8 :=
  if wd % 5 = 4 then digits (min s.size 255) 1 ++ s.data.toList.take 255 else digits n (2 ^ (wd % 5))
/-- The bytes of the first k things. -/
def pre (wd nn : Nat → Nat) (ss : Nat → ByteArray) : Nat → List UInt8
  | 0 => []
  | k + 1 => pre wd nn ss k ++ enc1 (wd k) (nn k) (ss k)
/-- Where each of the first k things begins. -/
def plc (wd nn : Nat → Nat) (ss : Nat → ByteArray) (k : Nat) : List Value := (List.range k).map fun i => Value.int .i64 ((pre wd nn ss i).length : Int)

theorem Tryd.infoInt : (Tryd.prog.info? 3).map (fun i => (i.zero, i.size, i.bytes)) = some (some (.int .i64 0), 1, 8) := by kernel_rfl
/-- A row of bytes and a row of ints are two. -/
theorem own_ne {w : World} {B C : Nat} {b v : Value} {n m : Nat} {xs ys : List Value} (hb : w.ownsRow B 5 1 b n xs) (hv : w.ownsRow C 3 1 v m ys) : b.ownBlock = none ∨ b.ownBlock ≠ v.ownBlock := by
  rcases hb.2 with ⟨rfl, _⟩ | ⟨g, c1, cur, rfl, _, h1, _⟩
  · exact Or.inl rfl
  · rcases hv.2 with ⟨rfl, _⟩ | ⟨g2, c2, cur2, rfl, _, h2, _⟩
    · exact Or.inr (by simp [Value.ownBlock])
    · refine Or.inr ?_
      intro e
      have e2 : g = g2 := by simpa [Value.ownBlock] using e
      subst e2
      rw [h1] at h2
      cases h2
/-- One int appended to a row of the call's own, beside a row of bytes. -/
theorem app_int {ops : Array Oper} {rest : List Oper} {o : Oper} {a : Act} {Q : Exit → Act → World → Prop} (W w : World) (z : Int) (s x : Operand) (v b : Value) (n L : Nat) (xs bs : List Value) (hgd : o.guard = none)
    (ho : o.op = .call { callee := .builtin .append, args := #[s, x], argTypes := #[57, 57] })
    (hs : a.eval s = v) (hx : a.eval x = .slice (some ⟨w.heap.size, 0, none⟩) 1 1)
    (hown : w.ownsRow W.heap.size 3 1 v n xs) (hb : w.ownsRow W.heap.size 5 1 b L bs) (hg : W.grownBy w none) (hl : n ≤ 1000100)
    (h : ∀ v' w', w'.ownsRow W.heap.size 3 1 v' (n + 1) (xs ++ [.int .i64 z]) → w'.ownsRow W.heap.size 5 1 b L bs → W.grownBy w' none → wpList Tryd.prog ops Q rest (a.put o.dst v') w') :
    wpList Tryd.prog ops Q (o :: rest) a (w.alloc (.cells #[.int .i64 z] 3)) := by
  obtain ⟨i0, hi, hz0, hz1, hz2⟩ := info_parts Tryd.infoInt
  refine wpList_append_own _ hgd s x 57 ho W.heap.size 3 i0 (.int .i64 0) 1 8 Tryd.underlying57 hi hz0 hz1 hz2 rfl (by decide) v n xs hs (hown.alloc _) ⟨w.heap.size, 0, none⟩ 1 1 [.int .i64 z] hx rfl (cell_new _ _ _) (fun u hu => by simp at hu; subst hu; rfl) (by unfold maxLen; omega) (by omega) (by have := hg.size; simp; omega) ?_
  intro v' w' h1 h2 _
  refine h v' w' h1 ((hb.alloc _).kept h2 (own_ne (hb.alloc _) (hown.alloc (.cells #[.int .i64 z] 3)))) ?_
  exact gb_own (gb_trans hg (gb_alloc w _ none)) (hown.alloc _) h2
theorem enc1_len (wd n : Nat) (s : ByteArray) : (enc1 wd n s).length ≤ 256 := by
  unfold enc1
  split
  · simp [digits_length]; omega
  · rw [digits_length]
    have h : wd % 5 ≤ 3 := by omega
    exact Nat.le_trans (Nat.pow_le_pow_right (by omega) h) (by decide)
theorem pre_len (wd nn : Nat → Nat) (ss : Nat → ByteArray) (k : Nat) : (pre wd nn ss k).length ≤ 256 * k := by
  induction k with
  | zero => simp [pre]
  | succ k ih => have := enc1_len (wd k) (nn k) (ss k); simp only [pre, List.length_append]; omega

theorem owns_base {w : World} {B C : Nat} {e : TypeId} {size : Nat} {v : Value} {n : Nat} {xs : List Value} (h : w.ownsRow B e size v n xs) (hB : C ≤ B) : w.ownsRow C e size v n xs := by
  refine ⟨h.1, ?_⟩
  rcases h.2 with h3 | ⟨g, cap, cur, e1, e2, e3⟩
  · exact Or.inl h3
  · exact Or.inr ⟨g, cap, cur, e1, by omega, e3⟩
theorem owns_keep0 {w w' : World} {B : Nat} {e : TypeId} {size : Nat} {v : Value} {n : Nat} {xs : List Value} (h : w.ownsRow B e size v n xs) (g : w.grownBy w' none) : w'.ownsRow B e size v n xs :=
  h.kept g (by cases v.ownBlock <;> simp)
theorem plc_succ (wd nn : Nat → Nat) (ss : Nat → ByteArray) (k : Nat) : plc wd nn ss (k + 1) = plc wd nn ss k ++ [.int .i64 ((pre wd nn ss k).length : Int)] := by
  simp [plc, List.range_succ]
theorem slice_to (P : Program) (t : TypeId) (hu : P.underlying t = some .string) (s : ByteArray) (W : World) :
    (Instr.slice t (.string s) none (some (.int .i64 (min (s.size : Int) 255))) none).run P W = .ok (.string (s.extract 0 (min (s.size : Int) 255).toNat)) W :=
  run_slice_string_h W t s hu .i64 _ (by omega) (by omega)
theorem cut_size (s : ByteArray) : (s.extract 0 (min (s.size : Int) 255).toNat).size ≤ 255 := by simp; omega
theorem enc1_text (wd n : Nat) (s t : ByteArray) (h : wd % 5 = 4) (ht : t = s.extract 0 (min (s.size : Int) 255).toNat) : digits t.size 1 ++ t.data.toList = enc1 wd n s := by
  have h1 : t.data.toList = s.data.toList.take 255 := by
    rw [ht]
    have : (s.extract 0 (min (s.size : Int) 255).toNat).data.toList = s.data.toList.take (min (s.size : Int) 255).toNat := by simp
    rw [this]
    by_cases h2 : s.size ≤ 255
    · rw [List.take_of_length_le (by simp; omega), List.take_of_length_le (by simp; omega)]
    · congr 1; omega
  have h3 : t.size = min s.size 255 := by rw [ht]; simp; omega
  unfold enc1
  rw [if_pos h, h1, h3]
theorem enc1_num (wd n j : Nat) (s : ByteArray) (h : wd % 5 = j) (hj : j ≠ 4) : digits n (2 ^ j) = enc1 wd n s := by
  unfold enc1
  rw [h, if_neg hj]

theorem nat8_digits (K : Nat) : ∀ n, nat8 (digits n K) = n % 256 ^ K := by
  induction K with
  | zero => intro n; simp [digits, nat8, Nat.mod_one]
  | succ K ih =>
    intro n
    rw [digits, nat8_snoc, ih]
    have h1 : (UInt8.ofNat (n % 256)).toNat = n % 256 := by simp
    rw [h1, Nat.pow_succ, Nat.mul_comm (256 ^ K) 256, Nat.mod_mul]
    omega
theorem pre_split (wd nn : Nat → Nat) (ss : Nat → ByteArray) (k : Nat) : ∀ m, k < m → ∃ R, pre wd nn ss m = pre wd nn ss k ++ (enc1 (wd k) (nn k) (ss k) ++ R) := by
  intro m
  induction m with
  | zero => intro h; omega
  | succ m ih =>
    intro h
    by_cases e : k = m
    · subst e; exact ⟨[], by simp [pre]⟩
    · obtain ⟨R, hR⟩ := ih (by omega)
      exact ⟨R ++ enc1 (wd m) (nn m) (ss m), by rw [pre, hR]; simp⟩
/-- What a reader of the first so many bytes has from the k-th thing on. -/
theorem at_thing (wd nn : Nat → Nat) (ss : Nat → ByteArray) (k m en : Nat) (X : ByteArray) (hk : k < m) (hX : X = ⟨((pre wd nn ss m).take en).toArray⟩) :
    ∃ R, X.data.toList.drop (pre wd nn ss k).length = (enc1 (wd k) (nn k) (ss k) ++ R).take (en - (pre wd nn ss k).length) := by
  obtain ⟨R, hR⟩ := pre_split wd nn ss k m hk
  refine ⟨R, ?_⟩
  subst hX
  rw [hR]
  show List.drop _ (List.take _ _) = _
  rw [List.drop_take, List.drop_left]
theorem size_X (l : List UInt8) (en : Nat) (X : ByteArray) (hX : X = ⟨(l.take en).toArray⟩) (h : en ≤ l.length) : X.size = en := by
  subst hX
  show ((l.take en).toArray).size = en
  simp; omega
theorem val_num (wd nn : Nat → Nat) (ss : Nat → ByteArray) (k m en j : Nat) (X : ByteArray) (hk : k < m) (hX : X = ⟨((pre wd nn ss m).take en).toArray⟩) (hj : wd k % 5 = j) (h4 : j ≠ 4) (hp : (pre wd nn ss k).length + 2 ^ j ≤ en) :
    valAt X (pre wd nn ss k).length (2 ^ j) = nn k % 256 ^ (2 ^ j) := by
  obtain ⟨R, hR⟩ := at_thing wd nn ss k m en X hk hX
  unfold valAt
  have hle : 2 ^ j ≤ en - (pre wd nn ss k).length := Nat.le_sub_of_add_le (by rw [Nat.add_comm]; exact hp)
  rw [hR, List.take_take, Nat.min_eq_left hle, ← enc1_num (wd k) (nn k) j (ss k) hj h4, List.take_append_of_le_length (by rw [digits_length]; omega), List.take_of_length_le (by rw [digits_length]; omega), nat8_digits]
theorem val_len (wd nn : Nat → Nat) (ss : Nat → ByteArray) (k m en : Nat) (X : ByteArray) (hk : k < m) (hX : X = ⟨((pre wd nn ss m).take en).toArray⟩) (hj : wd k % 5 = 4) (hp : (pre wd nn ss k).length < en) :
    valAt X (pre wd nn ss k).length 1 = min (ss k).size 255 := by
  obtain ⟨R, hR⟩ := at_thing wd nn ss k m en X hk hX
  unfold valAt
  rw [hR, List.take_take, Nat.min_eq_left (by omega)]
  unfold enc1
  rw [if_pos hj]
  simp only [digits, List.nil_append, List.cons_append, List.take_succ_cons, List.take_zero]
  simp [nat8]; omega
theorem text_at (wd nn : Nat → Nat) (ss : Nat → ByteArray) (k m en : Nat) (X : ByteArray) (hk : k < m) (hX : X = ⟨((pre wd nn ss m).take en).toArray⟩) (hj : wd k % 5 = 4) (hp : (pre wd nn ss k).length + 1 + min (ss k).size 255 ≤ en) :
    X.extract ((pre wd nn ss k).length + 1) ((pre wd nn ss k).length + 1 + min (ss k).size 255) = (ss k).extract 0 (min ((ss k).size : Int) 255).toNat := by
  obtain ⟨R, hR⟩ := at_thing wd nn ss k m en X hk hX
  apply ByteArray.ext
  apply Array.ext'
  have h1 : (X.extract ((pre wd nn ss k).length + 1) ((pre wd nn ss k).length + 1 + min (ss k).size 255)).data.toList = (X.data.toList.drop ((pre wd nn ss k).length + 1)).take (min (ss k).size 255) := by simp
  have h2 : ((ss k).extract 0 (min ((ss k).size : Int) 255).toNat).data.toList = (ss k).data.toList.take (min (ss k).size 255) := by
    have : (min ((ss k).size : Int) 255).toNat = min (ss k).size 255 := by omega
    rw [this]; simp
  rw [h1, h2, ← List.drop_drop, hR]
  unfold enc1
  rw [if_pos hj]
  simp only [digits, List.nil_append, List.cons_append]
  obtain ⟨e, he⟩ : ∃ e, en - (pre wd nn ss k).length = e + 1 := ⟨en - (pre wd nn ss k).length - 1, by omega⟩
  have hl : ((ss k).data.toList.take 255).length = min (ss k).size 255 := by simp; omega
  rw [he, List.take_succ_cons, List.drop_succ_cons, List.drop_zero, List.take_take, Nat.min_eq_left (by omega), List.take_append_of_le_length (by rw [hl]; omega), List.take_take]
  congr 1; omega
end Go.Proofs.YtcoedakbagbenaaDoor
