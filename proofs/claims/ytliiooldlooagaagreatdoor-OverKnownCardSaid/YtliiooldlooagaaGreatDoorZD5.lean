/-
  Texts of one layer, one behind the other, each with its own sentence; conditions: those that each law states.
-/
import Derived.Laws.AppendOwnNone
import Derived.Laws.IdiomStrings
import Derived.Maps.OwnSet
import Derived.Maps.Views
import Derived.MapKept
import Derived.Test.YtliiooldlooagaaGreatDoorZD4
set_option linter.unusedSimpArgs false
set_option linter.unusedVariables false

/-
  What comes of sectors, by the document's own answer (foyerref04.After), over this seat's translation; conditions: the slices read as lists, every sector is 256 bytes long, the place fits its kind.
-/
namespace Go.Proofs.YtliiooldlooagaaGreatDoor.D5
open Go.RowKit

/-- The first k bytes of what is in the sector then. -/
def partS (d H : ByteArray) (m k : Nat) : ByteArray := d.extract 0 (min k m) ++ H.extract m k
theorem ba_ext {x y : ByteArray} (h : x.data.toList = y.data.toList) : x = y := by
  cases x; cases y; simp only at h; congr 1; exact Array.toList_inj.1 h
theorem ba_extract (s : ByteArray) (a b : Nat) : (s.extract a b).data.toList = (s.data.toList.take b).drop a := by
  simp [ByteArray.extract, ByteArray.copySlice, List.drop_take]
theorem partS_size (d H : ByteArray) (m k : Nat) (hd : d.size = 256) (hH : H.size = 256) (hm : m ≤ 256) (hk : k ≤ 256) : (partS d H m k).size = k := by
  unfold partS
  simp only [ByteArray.size_append, ByteArray.size_extract]
  omega
theorem drop_take_succ {α : Type} (l : List α) (a k : Nat) (h : a ≤ k) : (l.take (k + 1)).drop a = (l.take k).drop a ++ (l.take (k + 1)).drop k := by
  have h1 : (l.take (k + 1)) = l.take k ++ (l.take (k + 1)).drop k := by
    have := List.take_append_drop k (l.take (k + 1))
    rw [List.take_take, Nat.min_eq_left (by omega)] at this
    exact this.symm
  rcases Nat.lt_or_ge k l.length with hl | hl
  · have h3 : (l.take k).length = k := by simp; omega
    conv => lhs; rw [h1]
    rw [List.drop_append, h3, show a - k = 0 by omega, List.drop_zero]
  · rw [List.take_of_length_le (by omega : l.length ≤ k + 1), List.take_of_length_le hl, List.drop_eq_nil_of_le hl, List.append_nil]
theorem partS_lo (d H : ByteArray) (m k : Nat) (h : k < m) : partS d H m k ++ d.extract k (k + 1) = partS d H m (k + 1) := by
  apply ba_ext
  unfold partS
  simp only [ByteArray.data_append, Array.toList_append, ba_extract]
  rw [Nat.min_eq_left (by omega), Nat.min_eq_left (by omega)]
  have e1 : (H.data.toList.take k).drop m = [] := List.drop_eq_nil_of_le (by simp; omega)
  have e2 : (H.data.toList.take (k + 1)).drop m = [] := List.drop_eq_nil_of_le (by simp; omega)
  rw [e1, e2, List.append_nil, List.append_nil, List.drop_zero, List.drop_zero]
  have := drop_take_succ d.data.toList 0 k (by omega)
  rw [List.drop_zero, List.drop_zero] at this
  exact this.symm
theorem partS_hi (d H : ByteArray) (m k : Nat) (h : m ≤ k) : partS d H m k ++ H.extract k (k + 1) = partS d H m (k + 1) := by
  apply ba_ext
  unfold partS
  simp only [ByteArray.data_append, Array.toList_append, ba_extract]
  rw [Nat.min_eq_right h, Nat.min_eq_right (by omega : m ≤ k + 1), List.append_assoc, ← drop_take_succ _ _ _ h]
theorem partS_zero (d H : ByteArray) (m : Nat) : partS d H m 0 = ⟨#[]⟩ := by
  apply ba_ext
  unfold partS
  simp
theorem partS_all (d H : ByteArray) (m : Nat) (hm : m ≤ 256) : partS d H m 256 = d.extract 0 m ++ H.extract m 256 := by
  unfold partS; rw [Nat.min_eq_right hm]
theorem extract_all (d : ByteArray) (hd : d.size = 256) (H : ByteArray) : partS d H 256 256 = d := by
  apply ba_ext
  unfold partS
  have hl : d.data.toList.length = 256 := hd
  simp only [ByteArray.data_append, Array.toList_append, ba_extract, Nat.min_self, List.drop_zero]
  rw [List.drop_eq_nil_of_le (by simp; omega), List.append_nil, List.take_of_length_le (by omega)]
/-- How many first bytes are the write's. -/
def cutAt (i : Nat) (t a : Int) : Nat := if (i : Int) = t then clampN a else 256
theorem cutAt_le (i : Nat) (t a : Int) : cutAt i t a ≤ 256 := by unfold cutAt; split; exact clampN_le a; omega
theorem cutAt_fin (d H : ByteArray) (i : Nat) (t a : Int) (hd : d.size = 256) : partS d H (cutAt i t a) 256 = if (i : Int) = t then cutS d a H else d := by
  unfold cutAt
  split
  · rw [partS_all _ _ _ (clampN_le a)]; rfl
  · exact extract_all d hd H
theorem strs_one {u : Value} {l : List ByteArray} (h : u ∈ strsC l) : u.oneCell' = true := by
  unfold strsC at h
  obtain ⟨s, _, rfl⟩ := List.mem_map.1 h
  rfl
theorem sts_of_owns {w : World} {base N : Nat} {v : Value} {R : List ByteArray} (own : w.ownsRow base 9 1 v N (strsC R)) (h : R.length = N) : Sts w v R := by
  subst h; exact Sl.of_owns own
/-- An append whose run is known. -/
theorem list_append_run {P : Program} {w w' : World} {ops : Array Oper} {rest : List Oper} {o : Oper} {a : Act} {Q : Exit → Act → World → Prop} (hgd : o.guard = none) (s x : Operand) (t : TypeId)
    (ho : o.op = .call { callee := .builtin .append, args := #[s, x], argTypes := #[t, t] }) (u1 u2 : Value) (hs : a.eval s = u1) (hx : a.eval x = u2) (v' : Value) (ty : TypeId)
    (hrun : (Builtin.append_ #[t, t] ty #[u1, u2]).run P w = .ok v' w') (hty : o.type = ty := by rfl) (h : wpList P ops Q rest (a.put o.dst v') w') : wpList P ops Q (o :: rest) a w := by
  subst hty
  refine wpList_plain hgd fun K hK => ?_
  unfold Oper.wp
  simp [execOp, ho, resolve, invoke, builtin, hs, hx, hrun, Result.andThen]
  exact hK _ _ h
/-- A list appended to an empty one of the call's own. -/
theorem app_strs (w : World) (v : Value) (ss : List ByteArray) (base g : Nat) (hv : Sts w v ss) (own : w.ownsRow base 9 1 (.slice (some ⟨g, 0, none⟩) 0 0) 0 []) (hb : base ≤ w.heap.size) (hl : ss.length ≤ 5000) :
    ∃ v3 w3, (Builtin.append_ #[111, 111] 111 #[.slice (some ⟨g, 0, none⟩) 0 0, v]).run Tryz.prog w = .ok v3 w3 ∧ w3.ownsRow base 9 1 v3 ss.length (strsC ss) ∧ w.grownBy w3 (some g) := by
  obtain ⟨i0, hi0, hz0, hz1, hz2⟩ := info_parts Tryz.infoStr
  obtain ⟨so, scap, rfl, hc, hsl, hsn, hsx⟩ := hv
  cases so with
  | none =>
    obtain ⟨h1, rfl⟩ := hsn rfl
    have h2 : ss = [] := List.length_eq_zero_iff.1 h1
    subst h2
    exact ⟨_, w, run_append_owned_none (P := Tryz.prog) (w := w) (w.heap.size + 1 - 1 - w.heap.size + base) 111 111 9 i0 1 Tryz.underlying111 hi0 _ 0 [] (by simpa using own), own, gb_refl _ _⟩
  | some x =>
    obtain ⟨v', w', hrun, r1, r2, _⟩ := run_append_own (P := Tryz.prog) w base 111 111 9 i0 (.string noS) 1 16 Tryz.underlying111 hi0 hz0 hz1 hz2 rfl (by decide) _ 0 [] own x ss.length scap (strsC ss) hsl (hsx x rfl) (fun u hu => strs_one hu) (by unfold maxLen; omega) (by omega) hb
    exact ⟨v', w', hrun, by simpa using r1, r2⟩
/-- A row of one's own, from a lower block on. -/
theorem owns_less {w : World} {base low : Nat} {e : TypeId} {size n : Nat} {v : Value} {xs : List Value} (h : w.ownsRow base e size v n xs) (hl : low ≤ base) : w.ownsRow low e size v n xs := by
  obtain ⟨h1, h2 | ⟨g, cap, cur, h3, h4, h5⟩⟩ := h
  · exact ⟨h1, .inl h2⟩
  · exact ⟨h1, .inr ⟨g, cap, cur, h3, Nat.le_trans hl h4, h5⟩⟩
end Go.Proofs.YtliiooldlooagaaGreatDoor.D5

/-
  The statements' own helpers of layer 4: a sector of one letter, sectors of letters, over this seat's translation; conditions: the slices read as lists.
-/
namespace Go.Proofs.YtliiooldlooagaaGreatDoor.D5
open Go.RowKit

/-- One letter, n times. -/
def rep (n : Nat) (c : UInt8) : List UInt8 := List.replicate n c
theorem rep_length (n : Nat) (c : UInt8) : (rep n c).length = n := List.length_replicate
theorem rep_at (n : Nat) (c : UInt8) (j : Nat) (h : j < n) : (rep n c)[j]? = some c := by unfold rep; rw [List.getElem?_replicate, if_pos h]
theorem rep_succ (n : Nat) (c : UInt8) : rep (n + 1) c = c :: rep n c := List.replicate_succ
theorem rep_snoc (n : Nat) (c : UInt8) : rep (n + 1) c = rep n c ++ [c] := List.replicate_succ'
/-- A sector of one letter. -/
def secS (c : UInt8) : ByteArray := ⟨(rep 256 c).toArray⟩
theorem secS_size (c : UInt8) : (secS c).size = 256 := by
  show (rep 256 c).toArray.size = 256
  rw [List.size_toArray, rep_length]
def fillB (c : UInt8) (k : Nat) : List UInt8 := rep k c ++ rep (256 - k) 0
theorem fillB_length (c : UInt8) (k : Nat) (h : k ≤ 256) : (fillB c k).length = 256 := by unfold fillB; rw [List.length_append, rep_length, rep_length]; omega
theorem fillB_set (c : UInt8) (k : Nat) (h : k < 256) : (fillB c k).set k c = fillB c (k + 1) := by
  unfold fillB
  rw [List.set_append_right _ _ (by rw [rep_length]; omega), rep_length, Nat.sub_self]
  rw [show 256 - k = (256 - (k + 1)) + 1 by omega, rep_succ, List.set_cons_zero, rep_snoc, List.append_assoc]
  rfl
theorem fillB_zero (c : UInt8) : fillB c 0 = rep 256 0 := rfl
theorem fillB_all (c : UInt8) : fillB c 256 = rep 256 c := by unfold fillB; rw [Nat.sub_self]; exact List.append_nil _
theorem u8_back (c : UInt8) : UInt8.ofNat c.toNat = c := by simp
theorem make_sector (w : World) : (Instr.makeSlice 59 (.int .i64 256) (.int .i64 256)).run Tryz.prog w = .ok (.slice (some ⟨w.heap.size, 0, none⟩) 256 256) (w.alloc (.cells (bytesC (rep 256 0)).toArray 5)) := make_bytes 256 256 w rfl (by omega)
def SectorGot (w : World) (c : UInt8) (e : Ending) (w' : World) : Prop := e = .returned (.string (secS c)) ∧ w.grownBy w' none
theorem own_keep0 {w w' : World} {base : Nat} {e : TypeId} {size : Nat} {v : Value} {n : Nat} {xs : List Value} (h : w.ownsRow base e size v n xs) (g : w.grownBy w' none) : w'.ownsRow base e size v n xs :=
  h.kept g (by cases hv : v.ownBlock <;> simp)
/-- Sectors of letters. -/
def secsF (l : List UInt8) : List ByteArray := (l.take 8).map secS
theorem secsF_whole (l : List UInt8) : Whole256 (secsF l) := by
  intro s hs
  unfold secsF at hs
  obtain ⟨c, _, rfl⟩ := List.mem_map.1 hs
  exact secS_size c
theorem secsF_length (l : List UInt8) : (secsF l).length = min 8 l.length := by simp [secsF]
theorem take_snoc {α : Type} (l : List α) (k : Nat) (d : α) (h : k < l.length) : l.take (k + 1) = l.take k ++ [l.getD k d] := by
  rw [List.take_succ_eq_append_getElem h]; simp [List.getD, h]
theorem strsC_snoc (l : List ByteArray) (s : ByteArray) : strsC (l ++ [s]) = strsC l ++ [.string s] := by simp [strsC]
theorem one_str (s : ByteArray) : ∀ u ∈ [Value.string s], u.oneCell' = true := by intro u hu; simp at hu; subst hu; rfl
def SectorsGot (w : World) (l : List UInt8) (e : Ending) (w' : World) : Prop := ∃ v, e = .returned v ∧ Sts w' v (secsF l) ∧ w.grownBy w' none
end Go.Proofs.YtliiooldlooagaaGreatDoor.D5

/-
  The statements' own helper that makes writes, over this seat's translation; conditions: the slice reads as a list.
-/
namespace Go.Proofs.YtliiooldlooagaaGreatDoor.D5
open Go.RowKit

abbrev Lay := UInt8 × UInt8 × UInt8
def layC (l : List Lay) : List Value := l.flatMap fun x => [.int .u8 (x.1.toNat : Nat), .int .u8 (x.2.1.toNat : Nat), .int .u8 (x.2.2.toNat : Nat)]
def Lys (w : World) (v : Value) (l : List Lay) : Prop := Sl 3 w v l.length (layC l)
theorem layC_length (l : List Lay) : (layC l).length = l.length * 3 := by
  induction l with
  | nil => rfl
  | cons x l ih => show (layC l).length + 3 = _; rw [ih, List.length_cons]; omega
theorem layC_at (l : List Lay) (i : Nat) (x : Lay) (h : l[i]? = some x) : (layC l)[i * 3]? = some (.int .u8 (x.1.toNat : Nat)) ∧ (layC l)[i * 3 + 1]? = some (.int .u8 (x.2.1.toNat : Nat)) ∧ (layC l)[i * 3 + 2]? = some (.int .u8 (x.2.2.toNat : Nat)) := by
  induction l generalizing i with
  | nil => simp at h
  | cons y l ih =>
    cases i with
    | zero =>
      obtain rfl : y = x := by simpa using h
      exact ⟨rfl, rfl, rfl⟩
    | succ i =>
      have := ih i (by simpa using h)
      rw [show (i + 1) * 3 = i * 3 + 3 by omega]
      exact this
/-- The write that is drawn so. -/
def dataW (y z : UInt8) : ByteArray := if 250 < z.toNat then (secS y).extract 0 (256 - (z.toNat - 250)) else secS y
def layW (x : Lay) : Int × ByteArray := (((x.1.toNat % 10 : Nat) : Int) - 1, dataW x.2.1 x.2.2)
def wrsF (l : List Lay) : List (Int × ByteArray) := (l.take 20).map layW
theorem wrsF_length (l : List Lay) : (wrsF l).length = min 20 l.length := by simp [wrsF]
theorem wrC_snoc (l : List (Int × ByteArray)) (x : Int × ByteArray) : wrC (l ++ [x]) = wrC l ++ [.int .i64 x.1, .string x.2] := by simp [wrC]
theorem wts_of_owns {w : World} {base N : Nat} {v : Value} {R : List (Int × ByteArray)} (own : w.ownsRow base 105 2 v N (wrC R)) (h : R.length = N) : Wts w v R := by
  subst h; exact Sl.of_owns own
theorem Tryz.infoWr : (Tryz.prog.info? 105).map (fun i => (i.zero, i.size, i.bytes)) = some (some (.agg #[.int .i64 0, .string ⟨#[]⟩]), 2, 24) := by kernel_rfl
theorem cells2_new (w : World) (x y : Value) (t : TypeId) : ∀ j u, [x, y][j]? = some u → (w.alloc (.cells #[x, y] t)).cell? ((⟨w.heap.size, 0, none⟩ : Addr).add j) = some u := by
  intro j u hj
  rw [add_lit]
  exact (Blk.mk w t #[x, y]).cell j (by rw [List.getElem?_toArray]; exact hj)
theorem one_wr (k : Int) (s : ByteArray) : ∀ u ∈ [Value.int .i64 k, .string s], u.oneCell' = true := by
  intro u hu; simp at hu; rcases hu with rfl | rfl <;> rfl
def WritesGot (w : World) (l : List Lay) (e : Ending) (w' : World) : Prop := ∃ v, e = .returned v ∧ Wts w' v (wrsF l) ∧ w.grownBy w' none
end Go.Proofs.YtliiooldlooagaaGreatDoor.D5

/-
  What a disk is, as plain mathematics (its sectors, what is pending, its power), and how the program's and the document's own disk lie in memory; what each operation makes of it. No conditions beside those that each law states.
-/
namespace Go.Proofs.YtliiooldlooagaaGreatDoor.D5
open Go.RowKit Go.Maps

/-- Nothing but blocks of F was changed. -/
structure Kp (F : Nat → Prop) (w w' : World) : Prop where
  os : w'.os = w.os
  tape : w'.tape = w.tape
  output : w'.output = w.output
  size : w.heap.size ≤ w'.heap.size
  block : ∀ k, k < w.heap.size → ¬ F k → w'.heap[k]? = w.heap[k]?
theorem Kp.refl (F : Nat → Prop) (w : World) : Kp F w w := ⟨rfl, rfl, rfl, Nat.le_refl _, fun _ _ _ => rfl⟩
theorem Kp.trans {F : Nat → Prop} {a b c : World} (h : Kp F a b) (k : Kp F b c) : Kp F a c :=
  ⟨k.os.trans h.os, k.tape.trans h.tape, k.output.trans h.output, Nat.le_trans h.size k.size, fun i hi hf => (k.block i (Nat.lt_of_lt_of_le hi h.size) hf).trans (h.block i hi hf)⟩
theorem Kp.mono {F G : Nat → Prop} {a b : World} (h : Kp F a b) (hs : ∀ k, F k → G k) : Kp G a b :=
  ⟨h.os, h.tape, h.output, h.size, fun i hi hf => h.block i hi (fun e => hf (hs i e))⟩
theorem Kp.of {F : Nat → Prop} {a b : World} {r : Option Nat} (h : a.grownBy b r) (hr : ∀ k, r = some k → F k) : Kp F a b :=
  ⟨h.os, h.tape, h.output, h.size, fun i hi hf => h.block i hi (fun e => hf (hr i e.symm))⟩
theorem Kp.of0 {F : Nat → Prop} {a b : World} (h : a.grownBy b none) : Kp F a b := Kp.of h (fun _ e => by cases e)
/-- A step that writes one block, of F or a new one. -/
theorem Kp.step {F : Nat → Prop} {a b c : World} {r : Option Nat} (h : Kp F a b) (k : b.grownBy c r) (hr : ∀ j, r = some j → F j ∨ a.heap.size ≤ j) : Kp F a c :=
  ⟨k.os.trans h.os, k.tape.trans h.tape, k.output.trans h.output, Nat.le_trans h.size k.size, fun i hi hf => (k.block i (Nat.lt_of_lt_of_le hi h.size) (fun e => by
    rcases hr i e.symm with h1 | h1
    · exact hf h1
    · omega)).trans (h.block i hi hf)⟩
theorem Kp.step0 {F : Nat → Prop} {a b c : World} (h : Kp F a b) (k : b.grownBy c none) : Kp F a c := h.step k (fun _ e => by cases e)
theorem Kp.gb {F : Nat → Prop} {a b : World} {r : Option Nat} (h : Kp F a b) (hr : ∀ k, F k → r = some k ∨ a.heap.size ≤ k) : a.grownBy b r :=
  ⟨h.os, h.tape, h.output, h.size, fun i hi hne => h.block i hi (fun e => by
    rcases hr i e with h1 | h1
    · exact hne h1.symm
    · omega)⟩
theorem Kp.below {F : Nat → Prop} {a b : World} {n : Nat} (h : Kp F a b) (hF : ∀ k, F k → n ≤ k) (hn : n ≤ a.heap.size) : Below n a b :=
  ⟨h.os, h.tape, h.output, h.size, fun k hk => h.block k (by omega) (fun e => by have := hF k e; omega)⟩
theorem Kp.blk {F : Nat → Prop} {a b : World} {k : Nat} {t : TypeId} {vs : Array Value} (h : Kp F a b) (hb : Blk a k t vs) (hf : ¬ F k) : Blk b k t vs := (h.block k hb.lt hf).trans hb
theorem Kp.row {F : Nat → Prop} {a b : World} {base : Nat} {e : TypeId} {size : Nat} {v : Value} {n : Nat} {xs : List Value} (h : Kp F a b) (o : a.ownsRow base e size v n xs) (hf : ∀ k, v.ownBlock = some k → ¬ F k) : b.ownsRow base e size v n xs := by
  obtain ⟨h1, h2 | ⟨g, cap, cur, rfl, h4, h5, h6⟩⟩ := o
  · exact ⟨h1, .inl h2⟩
  · exact ⟨h1, .inr ⟨g, cap, cur, rfl, h4, (h.block g (Array.getElem?_eq_some_iff.1 h5).1 (hf g rfl)).trans h5, h6⟩⟩
theorem Kp.map {H : Type} {P : Program} {k : TypeId} {R : Value → Option (DataW H × List MemPlace)} {F : Nat → Prop} {a b : World} {m n : Nat} {D : DataW H} (h : Kp F a b) (o : a.ownsMap P k R m n D) (hf : ¬ F m) : b.ownsMap P k R m n D := by
  have hlt := o.lt
  obtain ⟨es, clock, hb, X, hs, hD⟩ := o
  exact ⟨es, clock, (h.block m hlt hf).trans hb, X, hs, hD⟩
/-- What is new. -/
def Nw (F : Nat → Prop) (w w' : World) : Nat → Prop := fun k => F k ∨ (w.heap.size ≤ k ∧ k < w'.heap.size)

/-- A disk, as plain mathematics. -/
structure St where
  secs : List ByteArray
  pend : List (Int × ByteArray)
  off : Bool
  armed : Bool
  left : Int
  ops : Int
structure St.Ok (s : St) (N : Nat) : Prop where
  len : s.secs.length ≤ 1024
  whole : Whole256 s.secs
  each : ∀ x ∈ s.pend, ∃ m : Nat, x.1 = m ∧ m < s.secs.length ∧ x.2.size = 256
  plen : s.pend.length ≤ N
  ops0 : 0 ≤ s.ops
  opsN : s.ops ≤ N
  arm : s.armed = true → 0 ≤ s.left ∧ s.left ≤ 9223372036854775807
  idle : s.armed = false → s.left = 0
/-- What an operation answers, whose arguments may be (or may not), and what it makes of the power. -/
def opE (s : St) (may : Bool) : Int := if s.off then 10 else if !may then 2 else if s.armed && !decide (0 < s.left) then 10 else 0
def opS (s : St) (may : Bool) : St :=
  if s.off then s else if !may then s else if s.armed then (if 0 < s.left then { s with left := s.left - 1, ops := s.ops + 1 } else { s with off := true, armed := false, left := 0 }) else { s with ops := s.ops + 1 }
def hasF (s : St) (i : Int) : Bool := decide (0 ≤ i) && decide (i < (s.secs.length : Int))
/-- What stands in the sector i, if the list is written over a. -/
def standF (l : List (Int × ByteArray)) (a : ByteArray) (i : Int) : ByteArray := l.foldl (fun a x => if x.1 = i then x.2 else a) a
theorem standF_snoc (l : List (Int × ByteArray)) (x : Int × ByteArray) (a : ByteArray) (i : Int) : standF (l ++ [x]) a i = if x.1 = i then x.2 else standF l a i := by
  unfold standF; rw [List.foldl_append]; rfl
theorem standF_none (l : List (Int × ByteArray)) (a : ByteArray) (i : Int) (h : ∀ x ∈ l, x.1 ≠ i) : standF l a i = a := by
  induction l generalizing a with
  | nil => rfl
  | cons x l ih =>
    show standF l (if x.1 = i then x.2 else a) i = a
    rw [if_neg (h x (List.mem_cons_self ..))]
    exact ih a (fun y hy => h y (List.mem_cons_of_mem _ hy))
def readS (s : St) (i : Int) : ByteArray := if opE s (hasF s i) = 0 then standF s.pend (s.secs.getD i.toNat noS) i else noS
def mayW (s : St) (i : Int) (d : ByteArray) : Bool := hasF s i && decide (d.size = 256)
def writeT (s : St) (i : Int) (d : ByteArray) : St := if opE s (mayW s i d) = 0 then { opS s (mayW s i d) with pend := s.pend ++ [(i, d)] } else opS s (mayW s i d)
def laidF (l : List (Int × ByteArray)) (ss : List ByteArray) : List ByteArray := l.foldl (fun ss x => ss.set x.1.toNat x.2) ss
theorem laidF_snoc (l : List (Int × ByteArray)) (x : Int × ByteArray) (ss : List ByteArray) : laidF (l ++ [x]) ss = (laidF l ss).set x.1.toNat x.2 := by unfold laidF; rw [List.foldl_append]; rfl
theorem laidF_length (l : List (Int × ByteArray)) : ∀ ss : List ByteArray, (laidF l ss).length = ss.length := by
  induction l with
  | nil => intro ss; rfl
  | cons x l ih => intro ss; show (laidF l (ss.set x.1.toNat x.2)).length = _; rw [ih, List.length_set]
theorem laidF_whole (l : List (Int × ByteArray)) (hl : ∀ x ∈ l, x.2.size = 256) : ∀ ss : List ByteArray, Whole256 ss → Whole256 (laidF l ss) := by
  induction l with
  | nil => intro ss h; exact h
  | cons x l ih =>
    intro ss h
    refine ih (fun y hy => hl y (List.mem_cons_of_mem _ hy)) _ ?_
    intro y hy
    rcases List.mem_or_eq_of_mem_set hy with h1 | h1
    · exact h y h1
    · rw [h1]; exact hl x (List.mem_cons_self ..)
def barS (s : St) : St := if opE s true = 0 then { opS s true with secs := laidF s.pend s.secs, pend := [] } else opS s true
def armS (s : St) (n : Int) : St := { s with armed := decide (0 ≤ n), left := max n 0 }
def bootS (s : St) (cs : List UInt8) : St :=
  { s with secs := afterF s.secs s.pend (cameF cs (manyN (s.pend.length : Int))) (tornF cs (manyN (s.pend.length : Int))) (atF cs (manyN (s.pend.length : Int))), pend := [], off := false, armed := false, left := 0 }

theorem St.Ok.op {s : St} {N : Nat} (h : s.Ok N) (m : Bool) : (opS s m).Ok (N + 1) := by
  have hN : s.pend.length ≤ N + 1 := Nat.le_succ_of_le h.plen
  have hO := h.opsN
  have h0 := h.ops0
  unfold opS
  split
  · exact ⟨h.len, h.whole, h.each, hN, h.ops0, by omega, h.arm, h.idle⟩
  · split
    · exact ⟨h.len, h.whole, h.each, hN, h.ops0, by omega, h.arm, h.idle⟩
    · split
      · rename_i ha
        have := h.arm ha
        split
        · exact ⟨h.len, h.whole, h.each, hN, by show 0 ≤ s.ops + 1; omega, by show s.ops + 1 ≤ _; omega, fun _ => ⟨by show 0 ≤ s.left - 1; omega, by show s.left - 1 ≤ _; omega⟩, fun e => by have : s.armed = false := e; rw [ha] at this; cases this⟩
        · exact ⟨h.len, h.whole, h.each, hN, h.ops0, by show s.ops ≤ _; omega, (fun e => by cases e), fun _ => rfl⟩
      · rename_i ha
        exact ⟨h.len, h.whole, h.each, hN, by show 0 ≤ s.ops + 1; omega, by show s.ops + 1 ≤ _; omega, fun e => absurd e ha, h.idle⟩
theorem opS_secs (s : St) (m : Bool) : (opS s m).secs = s.secs ∧ (opS s m).pend = s.pend := by
  unfold opS; split; exact ⟨rfl, rfl⟩; split; exact ⟨rfl, rfl⟩; split; split; exact ⟨rfl, rfl⟩; exact ⟨rfl, rfl⟩; exact ⟨rfl, rfl⟩
theorem opE_may {s : St} {m : Bool} (h : opE s m = 0) : m = true := by
  unfold opE at h; split at h; cases h; split at h; cases h; rename_i h1; simpa using h1
theorem mayW_parts {s : St} {i : Int} {d : ByteArray} (h : mayW s i d = true) : ∃ m : Nat, i = m ∧ m < s.secs.length ∧ d.size = 256 := by
  unfold mayW hasF at h
  simp only [Bool.and_eq_true, decide_eq_true_eq] at h
  exact ⟨i.toNat, by omega, by omega, h.2⟩
theorem hasF_parts {s : St} {i : Int} (h : hasF s i = true) : ∃ m : Nat, i = m ∧ m < s.secs.length := by
  unfold hasF at h
  simp only [Bool.and_eq_true, decide_eq_true_eq] at h
  exact ⟨i.toNat, by omega, by omega⟩
theorem St.Ok.write {s : St} {N : Nat} (h : s.Ok N) (i : Int) (d : ByteArray) : (writeT s i d).Ok (N + 1) := by
  have ho := h.op (mayW s i d)
  have he := opS_secs s (mayW s i d)
  unfold writeT
  split
  · rename_i h0
    have hp := mayW_parts (opE_may h0)
    refine ⟨ho.len, ho.whole, ?_, ?_, ho.ops0, ho.opsN, ho.arm, ho.idle⟩
    · intro x hx
      show ∃ m : Nat, x.1 = m ∧ m < (opS s (mayW s i d)).secs.length ∧ x.2.size = 256
      rw [he.1]
      rcases List.mem_append.1 hx with h1 | h1
      · exact h.each x h1
      · rw [List.mem_singleton] at h1; subst h1; exact hp
    · show (s.pend ++ [(i, d)]).length ≤ N + 1
      have := h.plen
      simp; omega
  · exact ho
theorem St.Ok.bar {s : St} {N : Nat} (h : s.Ok N) : (barS s).Ok (N + 1) := by
  have ho := h.op true
  have he := opS_secs s true
  unfold barS
  split
  · refine ⟨?_, ?_, (fun x hx => by cases hx), by simp, ho.ops0, ho.opsN, ho.arm, ho.idle⟩
    · show (laidF s.pend s.secs).length ≤ 1024
      rw [laidF_length]; exact h.len
    · exact laidF_whole s.pend (fun x hx => by obtain ⟨_, _, _, h3⟩ := h.each x hx; exact h3) s.secs h.whole
  · exact ho
theorem St.Ok.arms {s : St} {N : Nat} (h : s.Ok N) (n : Int) (hn : n ≤ 9223372036854775807) : (armS s n).Ok N :=
  ⟨h.len, h.whole, h.each, h.plen, h.ops0, h.opsN, fun _ => ⟨by show 0 ≤ max n 0; omega, by show max n 0 ≤ _; omega⟩, fun e => by
    have h1 : ¬ (0 ≤ n) := of_decide_eq_false e
    show max n 0 = 0
    omega⟩
theorem St.Ok.boot {s : St} {N : Nat} (h : s.Ok N) (cs : List UInt8) : (bootS s cs).Ok N :=
  ⟨by show (afterF _ _ _ _ _).length ≤ _; rw [afterF_length]; exact h.len, foldW_whole _ _ _ _ _ h.whole, (fun x hx => by cases hx), Nat.zero_le _, h.ops0, h.opsN, (fun e => by cases e), fun _ => rfl⟩
theorem St.Ok.more {s : St} {N M : Nat} (h : s.Ok N) (hm : N ≤ M) : s.Ok M := ⟨h.len, h.whole, h.each, Nat.le_trans h.plen hm, h.ops0, by have := h.opsN; omega, h.arm, h.idle⟩

/-- The map that tells each sector's last pending write. -/
def MapIs (D : DataW Unit) (l : List (Int × ByteArray)) : Prop :=
  ∀ i : Int, (Maps.has D (.int .i64 i) = false ∧ ∀ x ∈ l, x.1 ≠ i) ∨
    (Maps.has D (.int .i64 i) = true ∧ ∃ (c : Nat) (d : ByteArray), D.atKey (.int .i64 i) (.lit (.int .i64 0)) = .lit (.int .i64 c) ∧ l[c]? = some (i, d) ∧ ∀ a, standF l a i = d)
theorem mapIs_nil : MapIs (.map []) [] := fun i => .inl ⟨rfl, fun _ h => by cases h⟩
theorem mapIs_put {D : DataW Unit} {l : List (Int × ByteArray)} (h : MapIs D l) (hm : IsMap D) (i : Int) (d : ByteArray) : MapIs (D.put (.int .i64 i) (.lit (.int .i64 (l.length : Nat)))) (l ++ [(i, d)]) := by
  intro j
  by_cases hj : j = i
  · subst hj
    refine .inr ⟨has_put_same hm (show WideAt.IsKeyLit (.int .i64 j) from trivial) _, l.length, d, atKey_put_same hm (show WideAt.IsKeyLit (.int .i64 j) from trivial) _ _, by simp, fun a => ?_⟩
    rw [standF_snoc]; simp
  · have hne : (Lit.int .i64 j) ≠ (Lit.int .i64 i) := by intro e; cases e; exact hj rfl
    rw [has_put_other hne, atKey_put_other hne]
    rcases h j with ⟨h1, h2⟩ | ⟨h1, c, d', h2, h3, h4⟩
    · refine .inl ⟨h1, fun x hx => ?_⟩
      rcases List.mem_append.1 hx with h5 | h5
      · exact h2 x h5
      · rw [List.mem_singleton] at h5; subst h5; exact fun e => hj e.symm
    · refine .inr ⟨h1, c, d', h2, ?_, fun a => ?_⟩
      · have := (List.getElem?_eq_some_iff.1 h3).1
        rw [List.getElem?_append_left this]; exact h3
      · rw [standF_snoc, if_neg (by simp; exact fun e => hj e.symm)]; exact h4 a

theorem own_keep0' {w w' : World} {base : Nat} {e : TypeId} {size : Nat} {v : Value} {n : Nat} {xs : List Value} (h : w.ownsRow base e size v n xs) (g : w.grownBy w' none) : w'.ownsRow base e size v n xs := by
  refine h.kept g ?_
  cases hv : v.ownBlock
  · exact .inl rfl
  · exact .inr (by simp)
/-- Blocks of different kinds are different ones. -/
theorem blk_row {w : World} {b base : Nat} {t e : TypeId} {vs : Array Value} {size : Nat} {v : Value} {n : Nat} {xs : List Value} (h : Blk w b t vs) (o : w.ownsRow base e size v n xs) (hne : t ≠ e) : v.ownBlock ≠ some b := by
  obtain ⟨_, ⟨rfl, _⟩ | ⟨g, cap, cur, rfl, _, h5, _⟩⟩ := o
  · intro e; cases e
  · intro e'; cases e'; unfold Blk at h; rw [h] at h5; cases h5; exact hne rfl
theorem row_row {w : World} {base base' : Nat} {t e : TypeId} {size size' : Nat} {v v' : Value} {n n' : Nat} {xs xs' : List Value} (o : w.ownsRow base t size v n xs) (o' : w.ownsRow base' e size' v' n' xs') (hne : t ≠ e) : ∀ k, v.ownBlock = some k → v'.ownBlock ≠ some k := by
  obtain ⟨_, ⟨rfl, _⟩ | ⟨g, cap, cur, rfl, _, h5, _⟩⟩ := o
  · intro k e; cases e
  · intro k e'; cases e'; exact blk_row h5 o' hne
theorem map_row {H : Type} {P : Program} {kt : TypeId} {R : Value → Option (DataW H × List MemPlace)} {w : World} {m n : Nat} {D : DataW H} {base : Nat} {e : TypeId} {size : Nat} {v : Value} {n' : Nat} {xs : List Value} (h : w.ownsMap P kt R m n D) (o : w.ownsRow base e size v n' xs) : v.ownBlock ≠ some m := by
  obtain ⟨es, clock, hb, _⟩ := h
  obtain ⟨_, ⟨rfl, _⟩ | ⟨g, cap, cur, rfl, _, h5, _⟩⟩ := o
  · intro e; cases e
  · intro e'; cases e'; rw [hb] at h5; cases h5
theorem map_blk {H : Type} {P : Program} {kt : TypeId} {R : Value → Option (DataW H × List MemPlace)} {w : World} {m n b : Nat} {D : DataW H} {t : TypeId} {vs : Array Value} (h : w.ownsMap P kt R m n D) (hb : Blk w b t vs) : b ≠ m := by
  obtain ⟨es, clock, h1, _⟩ := h
  rintro rfl
  unfold Blk at hb
  rw [h1] at hb; cases hb

/-- The program's disk in memory: its struct is the block p; F: all blocks that are its. -/
def PDv (w : World) (base : Nat) (p : Nat) (vs vp : Value) (bm : Nat) (D : DataW Unit) (s : St) : Prop :=
  Blk w p 114 #[vs, vp, .map (some bm), .int .i64 s.ops, .bool s.off, .bool s.armed, .int .i64 s.left] ∧
  w.ownsRow base 9 1 vs s.secs.length (strsC s.secs) ∧ w.ownsRow base 105 2 vp s.pend.length (wrC s.pend) ∧
  w.ownsMap Tryz.prog 3 (plainElem Tryz.prog 3) bm s.pend.length D ∧ MapIs D s.pend ∧ base ≤ p ∧ base ≤ bm
def footP (p : Nat) (vs vp : Value) (bm : Nat) (k : Nat) : Prop := k = p ∨ k = bm ∨ vs.ownBlock = some k ∨ vp.ownBlock = some k
def PD (w : World) (base : Nat) (F : Nat → Prop) (p : Nat) (s : St) : Prop :=
  ∃ vs vp bm D, PDv w base p vs vp bm D s ∧ ∀ k, footP p vs vp bm k → F k
def footR (p : Nat) (vs vp : Value) (k : Nat) : Prop := k = p ∨ vs.ownBlock = some k ∨ vp.ownBlock = some k
theorem PD.frame {w w' : World} {base p : Nat} {F G : Nat → Prop} {s : St} (h : PD w base F p s) (g : Kp G w w') (hd : ∀ k, F k → ¬ G k) : PD w' base F p s := by
  obtain ⟨vs, vp, bm, D, ⟨h1, h2, h3, h4, h5, h6, h7⟩, hf⟩ := h
  exact ⟨vs, vp, bm, D, ⟨g.blk h1 (hd _ (hf _ (.inl rfl))), g.row h2 (fun k e => hd _ (hf _ (.inr (.inr (.inl e))))), g.row h3 (fun k e => hd _ (hf _ (.inr (.inr (.inr e))))), g.map h4 (hd _ (hf _ (.inr (.inl rfl)))), h5, h6, h7⟩, hf⟩
theorem PD.keep0 {w w' : World} {base p : Nat} {F : Nat → Prop} {s : St} (h : PD w base F p s) (g : w.grownBy w' none) : PD w' base F p s := h.frame (G := fun _ => False) (Kp.of0 g) (fun _ _ => id)
theorem PDv.keep0 {w w' : World} {base p : Nat} {vs vp : Value} {bm : Nat} {D : DataW Unit} {s : St} (h : PDv w base p vs vp bm D s) (g : w.grownBy w' none) : PDv w' base p vs vp bm D s := by
  obtain ⟨h1, h2, h3, h4, h5, h6, h7⟩ := h
  exact ⟨h1.keep0 g, own_keep0' h2 g, own_keep0' h3 g, h4.kept g (by simp), h5, h6, h7⟩
end Go.Proofs.YtliiooldlooagaaGreatDoor.D5

/-
  The disk's small methods (disarm, powerGoes, operate, hasSector, fillsSector, forget), over this seat's translation; conditions: the disk lies as Dk0 tells.
-/
namespace Go.Proofs.YtliiooldlooagaaGreatDoor.D5
open Go.RowKit Go.Maps

/-- The cells of the disk's struct. -/
def dkC (vs vp : Value) (bm : Nat) (s : St) : Array Value := #[vs, vp, .map (some bm), .int .i64 s.ops, .bool s.off, .bool s.armed, .int .i64 s.left]
theorem dk_cells {w : World} {p : Nat} {vs vp : Value} {bm : Nat} {s : St} (h : Blk w p 114 (dkC vs vp bm s)) :
    w.cell? ⟨p, 0, none⟩ = some vs ∧ w.cell? ⟨p, 1, none⟩ = some vp ∧ w.cell? ⟨p, 2, none⟩ = some (.map (some bm)) ∧ w.cell? ⟨p, 3, none⟩ = some (.int .i64 s.ops) ∧ w.cell? ⟨p, 4, none⟩ = some (.bool s.off) ∧ w.cell? ⟨p, 5, none⟩ = some (.bool s.armed) ∧ w.cell? ⟨p, 6, none⟩ = some (.int .i64 s.left) :=
  ⟨h.cell 0 rfl, h.cell 1 rfl, h.cell 2 rfl, h.cell 3 rfl, h.cell 4 rfl, h.cell 5 rfl, h.cell 6 rfl⟩
def pp (p : Nat) : Value := .pointer (some ⟨p, 0, none⟩)
set_option maxRecDepth 100000 in
theorem disarm_any (w : World) (p : Nat) (vs vp : Value) (bm : Nat) (s : St) (h : Blk w p 114 (dkC vs vp bm s)) :
    Calls Tryz.prog 136 #[.pointer (some ⟨p, 0, none⟩)] w fun e w' => e = .returned (.tuple #[]) ∧ Blk w' p 114 (dkC vs vp bm { s with armed := false, left := 0 }) ∧ w.grownBy w' (some p) := by
  have f5 := h.free 5
  have f6 := h.free 6
  obtain ⟨_, _, _, _, _, c5, c6⟩ := dk_cells h
  go_enter Tryz.func136, Tryz.ntmps136
  go_wp2
  go_end0
  exact ⟨rfl, (h.set 5 _).set 6 _, gb_trans (gb_set _ _ _ _ _) (gb_set _ _ _ _ _)⟩
def goesS (s : St) : St := if s.armed then (if 0 < s.left then { s with left := s.left - 1 } else { s with off := true, armed := false, left := 0 }) else s
def goesB (s : St) : Bool := s.armed && !decide (0 < s.left)
set_option maxRecDepth 100000 in
theorem powerGoes_any (w : World) (p : Nat) (vs vp : Value) (bm : Nat) (s : St) (h : Blk w p 114 (dkC vs vp bm s)) (h2 : s.armed = true → s.left ≤ 9223372036854775807) :
    Calls Tryz.prog 116 #[.pointer (some ⟨p, 0, none⟩)] w fun e w' => e = .returned (.bool (goesB s)) ∧ Blk w' p 114 (dkC vs vp bm (goesS s)) ∧ w.grownBy w' (some p) := by
  obtain ⟨ss, pd, o, a, l, n⟩ := s
  have f4 := h.free 4
  have f6 := h.free 6
  obtain ⟨_, _, _, _, c4, c5, c6⟩ := dk_cells h
  simp only at c4 c5 c6 h2
  cases a with
  | false =>
    go_enter Tryz.func116, Tryz.ntmps116
    go_wp2
    go_ret
    exact ⟨rfl, h, gb_refl _ _⟩
  | true =>
    have h3 := h2 rfl
    clear h2
    by_cases hl : 0 < l
    · have hw : IntKind.i64.wrap (l - 1) = l - 1 := IntWalk.i64_in _ (by omega)
      have hE : goesB ⟨ss, pd, o, true, l, n⟩ = false := by unfold goesB; simp [hl]
      have hS : goesS ⟨ss, pd, o, true, l, n⟩ = ⟨ss, pd, o, true, l - 1, n⟩ := by unfold goesS; simp [hl]
      rw [hE, hS]
      clear hE hS
      go_enter Tryz.func116, Tryz.ntmps116
      go_wp2
      go_ret
      exact ⟨rfl, h.set 6 _, gb_set _ _ _ _ _⟩
    · have hE : goesB ⟨ss, pd, o, true, l, n⟩ = true := by unfold goesB; simp [hl]
      have hS : goesS ⟨ss, pd, o, true, l, n⟩ = ⟨ss, pd, true, false, 0, n⟩ := by unfold goesS; simp [hl]
      have hd : decide (0 < l) = false := decide_eq_false hl
      rw [hE, hS]
      clear hE hS
      have hn : Blk (w.setCell ⟨p, 4, none⟩ (.bool true)) p 114 (dkC vs vp bm ⟨ss, pd, true, true, l, n⟩) := h.set 4 _
      go_enter Tryz.func116, Tryz.ntmps116
      go_wp2_with (go_at_call 136; (with_reducible refine (disarm_any _ _ _ _ _ _ hn).mono ?_); rintro e w1 ⟨rfl, hb, g⟩)
      go_ret
      exact ⟨rfl, hb, gb_trans (gb_set _ _ _ _ _) g⟩
set_option maxRecDepth 100000 in
/-- What hasSector asks. -/
theorem hasSector1_any (w : World) (p bi bd : Nat) (i : Int) (ao : Option Addr) (cap : Nat) (vp : Value) (bm : Nat) (s : St) (h : Blk w p 114 (dkC (.slice ao s.secs.length cap) vp bm s)) (hi : Blk w bi 3 #[.int .i64 i]) (hd : Blk w bd 57 #[.pointer (some ⟨p, 0, none⟩)]) :
    Calls Tryz.prog 117 #[.pointer (some ⟨bi, 0, none⟩), .pointer (some ⟨bd, 0, none⟩)] w fun e w' => e = .returned (.bool (hasF s i)) ∧ w.grownBy w' none := by
  obtain ⟨c0, _, _, _, _, _, _⟩ := dk_cells h
  have ci := hi.cell 0 rfl
  have cd := hd.cell 0 rfl
  unfold hasF
  rcases Int.lt_or_le i 0 with h0 | h0
  · have hg : decide (0 ≤ i) = false := decide_eq_false (by omega)
    go_enter Tryz.func117, Tryz.ntmps117
    go_wp2
    go_region
    all_goals go_wp2
    all_goals go_ret
    all_goals exact ⟨by rw [hg]; rfl, gb_drew _ _⟩
  · have hg : decide (0 ≤ i) = true := decide_eq_true h0
    go_enter Tryz.func117, Tryz.ntmps117
    go_wp2
    go_region
    all_goals go_wp2
    all_goals go_ret
    all_goals exact ⟨by rw [hg]; rfl, gb_drew _ _⟩
set_option maxRecDepth 100000 in
theorem fillsSector1_any (w : World) (bd : Nat) (d : ByteArray) (hd : Blk w bd 9 #[.string d]) :
    Calls Tryz.prog 118 #[.pointer (some ⟨bd, 0, none⟩)] w fun e w' => e = .returned (.bool (decide (d.size = 256))) ∧ w.grownBy w' none := by
  have cd := hd.cell 0 rfl
  go_enter Tryz.func118, Tryz.ntmps118
  go_wp2
  go_ret
  refine ⟨?_, gb_refl _ _⟩
  by_cases hs : d.size = 256
  · simp [hs]
  · have : ((d.size : Int) == 256) = false := by simp; omega
    simp [hs, this]
/-- The closures as values. -/
def hasV (bi bd : Nat) : Value := .func (.func 117) #[] #[.pointer (some ⟨bi, 0, none⟩), .pointer (some ⟨bd, 0, none⟩)]
def fillsV (bd : Nat) : Value := .func (.func 118) #[] #[.pointer (some ⟨bd, 0, none⟩)]
set_option maxRecDepth 100000 in
theorem hasSector_any (w : World) (q : Option Addr) (i : Int) :
    Calls Tryz.prog 96 #[.pointer q, .int .i64 i] w fun e w' => e = .returned (.func (.func 117) #[] #[.pointer (some ⟨w.heap.size + 1, 0, none⟩), .pointer (some ⟨w.heap.size, 0, none⟩)]) ∧ Blk w' (w.heap.size + 1) 3 #[.int .i64 i] ∧ Blk w' w.heap.size 57 #[.pointer q] ∧ w.grownBy w' none := by
  go_enter Tryz.func96, Tryz.ntmps96
  go_wp2
  go_ret
  refine ⟨rfl, ?_, (Blk.mk w 57 #[.pointer q]).keep0 (gb_alloc _ _ _), gb_trans (gb_alloc _ _ _) (gb_alloc _ _ _)⟩
  have := Blk.mk (w.alloc (.cells #[.pointer q] 57)) 3 #[.int .i64 i]
  rw [World.size_alloc] at this
  exact this
set_option maxRecDepth 100000 in
theorem fillsSector_any (w : World) (d : ByteArray) :
    Calls Tryz.prog 97 #[.string d] w fun e w' => e = .returned (.func (.func 118) #[] #[.pointer (some ⟨w.heap.size, 0, none⟩)]) ∧ Blk w' w.heap.size 9 #[.string d] ∧ w.grownBy w' none := by
  go_enter Tryz.func97, Tryz.ntmps97
  go_wp2
  go_ret
  exact ⟨rfl, Blk.mk w 9 #[.string d], gb_alloc _ _ _⟩
/-- An operation is begun. -/
def OpGot (w : World) (p : Nat) (vs vp : Value) (bm : Nat) (s : St) (m : Bool) (e : Ending) (w' : World) : Prop :=
  e = .returned (.int .i64 (opE s m)) ∧ Blk w' p 114 (dkC vs vp bm (opS s m)) ∧ w.grownBy w' (some p)
theorem op_off {s : St} (h : s.off = true) (m : Bool) : opE s m = 10 ∧ opS s m = s := by unfold opE opS; simp [h]
theorem op_no {s : St} (h : s.off = false) : opE s false = 2 ∧ opS s false = s := by unfold opE opS; simp [h]
theorem op_gone {s : St} (h : s.off = false) (hg : goesB s = true) : opE s true = 10 ∧ opS s true = goesS s := by
  unfold goesB at hg
  simp only [Bool.and_eq_true, Bool.not_eq_true', decide_eq_false_iff_not] at hg
  unfold opE opS goesS; simp [h, hg.1, hg.2]
theorem op_done {s : St} (h : s.off = false) (hg : goesB s = false) : opE s true = 0 ∧ opS s true = { goesS s with ops := s.ops + 1 } ∧ (goesS s).ops = s.ops := by
  unfold goesB at hg
  unfold opE opS goesS
  cases ha : s.armed with
  | false => simp [h, ha]
  | true =>
    rw [ha] at hg
    have h1 : 0 < s.left := by simpa using hg
    simp [h, h1]
theorem op_nil (w : World) (v : Value) (n : Nat) (a : Option Addr) (c : Nat) (hv : v = .slice a n c) : Calls Tryz.prog 95 #[.pointer none, v] w fun e w' => e = .returned (.int .i64 1) ∧ w = w' := by
  subst hv
  go_enter Tryz.func95, Tryz.ntmps95
  go_wp2
  go_ret
  exact ⟨rfl, rfl⟩
set_option maxRecDepth 100000 in
theorem operate_none (w : World) (p : Nat) (vs vp : Value) (bm : Nat) (s : St) (h : Blk w p 114 (dkC vs vp bm s)) (h2 : s.armed = true → s.left ≤ 9223372036854775807) (h3 : 0 ≤ s.ops ∧ s.ops ≤ 1000000) :
    Calls Tryz.prog 95 #[.pointer (some ⟨p, 0, none⟩), .slice none 0 0] w (OpGot w p vs vp bm s true) := by
  obtain ⟨_, _, _, _, c4, _, _⟩ := dk_cells h
  cases ho : s.off with
  | true =>
    obtain ⟨hE, hS⟩ := op_off ho true
    have HS := Lib.hid (And.intro hE hS)
    rw [ho] at c4
    clear hE hS
    go_enter Tryz.func95, Tryz.ntmps95
    go_wp2
    go_ret
    exact ⟨congrArg (fun z => Ending.returned (Value.int .i64 z)) HS.out.1.symm, by rw [HS.out.2]; exact h, gb_refl _ _⟩
  | false =>
    rw [ho] at c4
    cases hg : goesB s with
    | true =>
      obtain ⟨hE, hS⟩ := op_gone ho hg
      have HS := Lib.hid (And.intro hE hS)
      have HG := Lib.hid hg
      clear hE hS hg
      go_enter Tryz.func95, Tryz.ntmps95
      go_wp2
      refine wp_loop_rounds 1 ?_
      rw [rounds_succ]
      go_wp2_with (go_at_call 116; (with_reducible refine (powerGoes_any _ _ _ _ _ _ h h2).mono ?_); rintro e w1 ⟨rfl, hb, g⟩; rw [HG.out])
      go_ret
      exact ⟨congrArg (fun z => Ending.returned (Value.int .i64 z)) HS.out.1.symm, by rw [HS.out.2]; exact hb, g⟩
    | false =>
      obtain ⟨hE, hS, hO⟩ := op_done ho hg
      have HS := Lib.hid (And.intro hE hS)
      have HG := Lib.hid hg
      have hw : IntKind.i64.wrap (s.ops + 1) = s.ops + 1 := IntWalk.i64_in _ (by omega)
      have HO := Lib.hid hO
      clear hE hS hg hO
      go_enter Tryz.func95, Tryz.ntmps95
      go_wp2
      refine wp_loop_rounds 1 ?_
      rw [rounds_succ]
      go_wp2_with (go_at_call 116; (with_reducible refine (powerGoes_any _ _ _ _ _ _ h h2).mono ?_); rintro e w1 ⟨rfl, hb, g⟩; rw [HG.out]; obtain ⟨_, _, _, d3, _, _, _⟩ := dk_cells hb; rw [HO.out] at d3; have e3 := hb.free 3)
      go_ret
      exact ⟨congrArg (fun z => Ending.returned (Value.int .i64 z)) HS.out.1.symm, by rw [HS.out.2]; exact hb.set 3 _, gb_trans g (gb_set _ _ _ _ _)⟩
-- operate of one, of two
set_option maxRecDepth 100000 in
set_option maxHeartbeats 1000000 in
theorem operate_one (w : World) (p q bi bd : Nat) (i : Int) (ao : Option Addr) (cap : Nat) (vp : Value) (bm : Nat) (s : St) (h : Blk w p 114 (dkC (.slice ao s.secs.length cap) vp bm s)) (h2 : s.armed = true → s.left ≤ 9223372036854775807) (h3 : 0 ≤ s.ops ∧ s.ops ≤ 1000000) (hi : Blk w bi 3 #[.int .i64 i]) (hd : Blk w bd 57 #[.pointer (some ⟨p, 0, none⟩)]) (hq : w.cell? ⟨q, 0, none⟩ = some (hasV bi bd)) :
    Calls Tryz.prog 95 #[.pointer (some ⟨p, 0, none⟩), .slice (some ⟨q, 0, none⟩) 1 1] w (OpGot w p (.slice ao s.secs.length cap) vp bm s (hasF s i)) := by
  obtain ⟨_, _, _, _, c4, _, _⟩ := dk_cells h
  unfold hasV at hq
  cases ho : s.off with
  | true =>
    obtain ⟨hE, hS⟩ := op_off ho (hasF s i)
    have HS := Lib.hid (And.intro hE hS)
    rw [ho] at c4
    clear hE hS
    go_enter Tryz.func95, Tryz.ntmps95
    go_wp2
    go_ret
    exact ⟨congrArg (fun z => Ending.returned (Value.int .i64 z)) HS.out.1.symm, by rw [HS.out.2]; exact h, gb_refl _ _⟩
  | false =>
    rw [ho] at c4
    cases hm : hasF s i with
    | false =>
      obtain ⟨hE, hS⟩ := op_no ho
      have HS := Lib.hid (And.intro hE hS)
      have HM := Lib.hid hm
      clear hE hS hm
      go_enter Tryz.func95, Tryz.ntmps95
      go_wp2
      refine wp_loop_rounds 1 ?_
      rw [rounds_succ]
      go_wp2_with (go_at_call 117; (with_reducible refine (hasSector1_any _ p bi bd i ao cap vp bm s h hi hd).mono ?_); rintro e w1 ⟨rfl, g1⟩; rw [HM.out]; replace h := h.keep0 g1)
      go_ret
      exact ⟨congrArg (fun z => Ending.returned (Value.int .i64 z)) HS.out.1.symm, by rw [HS.out.2]; exact h, gb_weak g1 _⟩
    | true =>
      have HM := Lib.hid hm
      clear hm
      cases hg : goesB s with
      | true =>
        obtain ⟨hE, hS⟩ := op_gone ho hg
        have HS := Lib.hid (And.intro hE hS)
        have HG := Lib.hid hg
        clear hE hS hg
        go_enter Tryz.func95, Tryz.ntmps95
        go_wp2
        refine wp_loop_rounds 2 ?_
        rw [rounds_succ]
        go_wp2_with (go_at_call 117; (with_reducible refine (hasSector1_any _ p bi bd i ao cap vp bm s h hi hd).mono ?_); rintro e w1 ⟨rfl, g1⟩; rw [HM.out]; replace h := h.keep0 g1)
        rw [rounds_succ]
        go_wp2_with (go_at_call 116; (with_reducible refine (powerGoes_any _ _ _ _ _ _ h h2).mono ?_); rintro e w3 ⟨rfl, hb, g⟩; rw [HG.out])
        go_ret
        exact ⟨congrArg (fun z => Ending.returned (Value.int .i64 z)) HS.out.1.symm, by rw [HS.out.2]; exact hb, gb_trans (gb_weak g1 _) g⟩
      | false =>
        obtain ⟨hE, hS, hO⟩ := op_done ho hg
        have HS := Lib.hid (And.intro hE hS)
        have HG := Lib.hid hg
        have hw : IntKind.i64.wrap (s.ops + 1) = s.ops + 1 := IntWalk.i64_in _ (by omega)
        have HO := Lib.hid hO
        clear hE hS hg hO
        go_enter Tryz.func95, Tryz.ntmps95
        go_wp2
        refine wp_loop_rounds 2 ?_
        rw [rounds_succ]
        go_wp2_with (go_at_call 117; (with_reducible refine (hasSector1_any _ p bi bd i ao cap vp bm s h hi hd).mono ?_); rintro e w1 ⟨rfl, g1⟩; rw [HM.out]; replace h := h.keep0 g1)
        rw [rounds_succ]
        go_wp2_with (go_at_call 116; (with_reducible refine (powerGoes_any _ _ _ _ _ _ h h2).mono ?_); rintro e w3 ⟨rfl, hb, g⟩; rw [HG.out]; obtain ⟨_, _, _, d3, _, _, _⟩ := dk_cells hb; rw [HO.out] at d3; have e3 := hb.free 3)
        go_ret
        exact ⟨congrArg (fun z => Ending.returned (Value.int .i64 z)) HS.out.1.symm, by rw [HS.out.2]; exact hb.set 3 _, gb_trans (gb_trans (gb_weak g1 _) g) (gb_set _ _ _ _ _)⟩
set_option maxRecDepth 100000 in
set_option maxHeartbeats 1000000 in
theorem operate_two (w : World) (p q bi bd : Nat) (i : Int) (ao : Option Addr) (cap : Nat) (vp : Value) (bm : Nat) (s : St) (h : Blk w p 114 (dkC (.slice ao s.secs.length cap) vp bm s)) (h2 : s.armed = true → s.left ≤ 9223372036854775807) (h3 : 0 ≤ s.ops ∧ s.ops ≤ 1000000) (hi : Blk w bi 3 #[.int .i64 i]) (hd : Blk w bd 57 #[.pointer (some ⟨p, 0, none⟩)]) (hq : w.cell? ⟨q, 0, none⟩ = some (hasV bi bd)) (bs : Nat) (d : ByteArray) (hs : Blk w bs 9 #[.string d]) (hq2 : w.cell? ⟨q, 1, none⟩ = some (fillsV bs)) :
    Calls Tryz.prog 95 #[.pointer (some ⟨p, 0, none⟩), .slice (some ⟨q, 0, none⟩) 2 2] w (OpGot w p (.slice ao s.secs.length cap) vp bm s (mayW s i d)) := by
  obtain ⟨_, _, _, _, c4, _, _⟩ := dk_cells h
  unfold hasV at hq
  unfold fillsV at hq2
  cases ho : s.off with
  | true =>
    obtain ⟨hE, hS⟩ := op_off ho (mayW s i d)
    have HS := Lib.hid (And.intro hE hS)
    rw [ho] at c4
    clear hE hS
    go_enter Tryz.func95, Tryz.ntmps95
    go_wp2
    go_ret
    exact ⟨congrArg (fun z => Ending.returned (Value.int .i64 z)) HS.out.1.symm, by rw [HS.out.2]; exact h, gb_refl _ _⟩
  | false =>
    rw [ho] at c4
    cases hm : hasF s i with
    | false =>
      have hmw : mayW s i d = false := by unfold mayW; rw [hm]; rfl
      rw [hmw]
      obtain ⟨hE, hS⟩ := op_no ho
      have HS := Lib.hid (And.intro hE hS)
      have HM := Lib.hid hm
      clear hE hS hm
      go_enter Tryz.func95, Tryz.ntmps95
      go_wp2
      refine wp_loop_rounds 1 ?_
      rw [rounds_succ]
      go_wp2_with (go_at_call 117; (with_reducible refine (hasSector1_any _ p bi bd i ao cap vp bm s h hi hd).mono ?_); rintro e w1 ⟨rfl, g1⟩; rw [HM.out]; replace h := h.keep0 g1; replace hs := hs.keep0 g1; replace hq2 := g1.cell hq2 (by simp))
      go_ret
      exact ⟨congrArg (fun z => Ending.returned (Value.int .i64 z)) HS.out.1.symm, by rw [HS.out.2]; exact h, gb_weak g1 _⟩
    | true =>
      cases hds : decide (d.size = 256) with
      | false =>
        have hmw : mayW s i d = false := by unfold mayW; rw [hm, hds]; rfl
        rw [hmw]
        obtain ⟨hE, hS⟩ := op_no ho
        have HS := Lib.hid (And.intro hE hS)
        have HM := Lib.hid hm
        have HD := Lib.hid hds
        clear hE hS hm hds
        go_enter Tryz.func95, Tryz.ntmps95
        go_wp2
        refine wp_loop_rounds 2 ?_
        rw [rounds_succ]
        go_wp2_with (go_at_call 117; (with_reducible refine (hasSector1_any _ p bi bd i ao cap vp bm s h hi hd).mono ?_); rintro e w1 ⟨rfl, g1⟩; rw [HM.out]; replace h := h.keep0 g1; replace hs := hs.keep0 g1; replace hq2 := g1.cell hq2 (by simp))
        rw [rounds_succ]
        go_wp2_with (go_at_call 118; (with_reducible refine (fillsSector1_any _ bs d hs).mono ?_); rintro e w2 ⟨rfl, g2⟩; rw [HD.out]; replace h := h.keep0 g2; replace g1 := gb_trans g1 g2)
        go_ret
        exact ⟨congrArg (fun z => Ending.returned (Value.int .i64 z)) HS.out.1.symm, by rw [HS.out.2]; exact h, gb_weak g1 _⟩
      | true =>
        have hmw : mayW s i d = true := by unfold mayW; rw [hm, hds]; rfl
        rw [hmw]
        have HD := Lib.hid hds
        clear hds
        have HM := Lib.hid hm
        clear hm
        cases hg : goesB s with
        | true =>
          obtain ⟨hE, hS⟩ := op_gone ho hg
          have HS := Lib.hid (And.intro hE hS)
          have HG := Lib.hid hg
          clear hE hS hg
          go_enter Tryz.func95, Tryz.ntmps95
          go_wp2
          refine wp_loop_rounds 3 ?_
          rw [rounds_succ]
          go_wp2_with (go_at_call 117; (with_reducible refine (hasSector1_any _ p bi bd i ao cap vp bm s h hi hd).mono ?_); rintro e w1 ⟨rfl, g1⟩; rw [HM.out]; replace h := h.keep0 g1; replace hs := hs.keep0 g1; replace hq2 := g1.cell hq2 (by simp))
          rw [rounds_succ]
          go_wp2_with (go_at_call 118; (with_reducible refine (fillsSector1_any _ bs d hs).mono ?_); rintro e w2 ⟨rfl, g2⟩; rw [HD.out]; replace h := h.keep0 g2; replace g1 := gb_trans g1 g2)
          rw [rounds_succ]
          go_wp2_with (go_at_call 116; (with_reducible refine (powerGoes_any _ _ _ _ _ _ h h2).mono ?_); rintro e w3 ⟨rfl, hb, g⟩; rw [HG.out])
          go_ret
          exact ⟨congrArg (fun z => Ending.returned (Value.int .i64 z)) HS.out.1.symm, by rw [HS.out.2]; exact hb, gb_trans (gb_weak g1 _) g⟩
        | false =>
          obtain ⟨hE, hS, hO⟩ := op_done ho hg
          have HS := Lib.hid (And.intro hE hS)
          have HG := Lib.hid hg
          have hw : IntKind.i64.wrap (s.ops + 1) = s.ops + 1 := IntWalk.i64_in _ (by omega)
          have HO := Lib.hid hO
          clear hE hS hg hO
          go_enter Tryz.func95, Tryz.ntmps95
          go_wp2
          refine wp_loop_rounds 3 ?_
          rw [rounds_succ]
          go_wp2_with (go_at_call 117; (with_reducible refine (hasSector1_any _ p bi bd i ao cap vp bm s h hi hd).mono ?_); rintro e w1 ⟨rfl, g1⟩; rw [HM.out]; replace h := h.keep0 g1; replace hs := hs.keep0 g1; replace hq2 := g1.cell hq2 (by simp))
          rw [rounds_succ]
          go_wp2_with (go_at_call 118; (with_reducible refine (fillsSector1_any _ bs d hs).mono ?_); rintro e w2 ⟨rfl, g2⟩; rw [HD.out]; replace h := h.keep0 g2; replace g1 := gb_trans g1 g2)
          rw [rounds_succ]
          go_wp2_with (go_at_call 116; (with_reducible refine (powerGoes_any _ _ _ _ _ _ h h2).mono ?_); rintro e w3 ⟨rfl, hb, g⟩; rw [HG.out]; obtain ⟨_, _, _, d3, _, _, _⟩ := dk_cells hb; rw [HO.out] at d3; have e3 := hb.free 3)
          go_ret
          exact ⟨congrArg (fun z => Ending.returned (Value.int .i64 z)) HS.out.1.symm, by rw [HS.out.2]; exact hb.set 3 _, gb_trans (gb_trans (gb_weak g1 _) g) (gb_set _ _ _ _ _)⟩
end Go.Proofs.YtliiooldlooagaaGreatDoor.D5

/-
  The disk's calls (Read, Arm, Off, Ops, Pending, Sectors, forget), over this seat's translation; conditions: the disk lies as Dk0 tells, its counts are small.
-/
namespace Go.Proofs.YtliiooldlooagaaGreatDoor.D5
open Go.RowKit Go.Maps Go.ChangeMaps

theorem pdv_turn {w w' : World} {base p : Nat} {vs vp : Value} {bm : Nat} {D : DataW Unit} {s s' : St} (h : PDv w base p vs vp bm D s) (h1 : s'.secs = s.secs) (h2 : s'.pend = s.pend) (hb : Blk w' p 114 (dkC vs vp bm s')) (g : w.grownBy w' (some p)) : PDv w' base p vs vp bm D s' := by
  obtain ⟨a1, a2, a3, a4, a5, a6, a7⟩ := h
  refine ⟨hb, ?_, ?_, ?_, by rw [h2]; exact a5, a6, a7⟩
  · rw [h1]; exact a2.kept g (Or.inr (blk_row a1 a2 (by decide)))
  · rw [h2]; exact a3.kept g (Or.inr (blk_row a1 a3 (by decide)))
  · rw [h2]; exact a4.kept g (ne_some (map_blk a4 a1).symm)
theorem pdv_vs {w : World} {base p : Nat} {vs vp : Value} {bm : Nat} {D : DataW Unit} {s : St} (h : PDv w base p vs vp bm D s) : ∃ ao cap, vs = .slice ao s.secs.length cap := by
  obtain ⟨ao, cap, h1, _⟩ := Sl.of_owns h.2.1; exact ⟨ao, cap, h1⟩
theorem pdv_vp {w : World} {base p : Nat} {vs vp : Value} {bm : Nat} {D : DataW Unit} {s : St} (h : PDv w base p vs vp bm D s) : ∃ ao cap, vp = .slice ao s.pend.length cap := by
  obtain ⟨ao, cap, h1, _⟩ := Sl.of_owns h.2.2.1; exact ⟨ao, cap, h1⟩
theorem lawI : Keyed Tryz.prog 3 := int_keyed Tryz.underlying3
theorem zeroI (w : World) : (zeroValue 3).run Tryz.prog w = .ok (.int .i64 0) w := by kernel_rfl
theorem i64_wf' {z : Int} (h : -9223372036854775808 ≤ z ∧ z ≤ 9223372036854775807) : (Lit.int .i64 z).wf = true := by
  show (decide (-9223372036854775808 ≤ z) && decide (z ≤ 9223372036854775807)) = true
  simpa using h
/-- What the look-up of a sector's last pending write answers. -/
theorem look_no {w : World} {bm n : Nat} {D : DataW Unit} (h : w.ownsMap Tryz.prog 3 (plainElem Tryz.prog 3) bm n D) (i : Int) (hi : -9223372036854775808 ≤ i ∧ i ≤ 9223372036854775807) (hn : Maps.has D (.int .i64 i) = false) :
    ∃ v : Int, (Instr.lookup 112 (.map (some bm)) (.int .i64 i) true).run Tryz.prog w = .ok (.tuple #[.int .i64 v, .bool false]) w := by
  obtain ⟨v, ps, hrun, hv⟩ := h.look_ok lawI Tryz.underlying112 (zeroI w) (plainElem_int Tryz.underlying3 (by decide)) (keyOf_int_mk Tryz.underlying3 (i64_wf' hi))
  obtain ⟨c, rfl, hc, _⟩ := plainElem_int_inv Tryz.underlying3 hv
  rw [hn] at hrun
  exact ⟨c, hrun⟩
theorem look_yes {w : World} {bm n : Nat} {D : DataW Unit} (h : w.ownsMap Tryz.prog 3 (plainElem Tryz.prog 3) bm n D) (i : Int) (hi : -9223372036854775808 ≤ i ∧ i ≤ 9223372036854775807) (hn : Maps.has D (.int .i64 i) = true) (c : Nat) (hc : D.atKey (.int .i64 i) (.lit (.int .i64 0)) = .lit (.int .i64 (c : Nat))) :
    (Instr.lookup 112 (.map (some bm)) (.int .i64 i) true).run Tryz.prog w = .ok (.tuple #[.int .i64 (c : Nat), .bool true]) w := by
  obtain ⟨v, ps, hrun, hv⟩ := h.look_ok lawI Tryz.underlying112 (zeroI w) (plainElem_int Tryz.underlying3 (by decide)) (keyOf_int_mk Tryz.underlying3 (i64_wf' hi))
  obtain ⟨c', rfl, hc', _⟩ := plainElem_int_inv Tryz.underlying3 hv
  rw [hn] at hrun
  rw [hc] at hc'
  have : c' = (c : Nat) := by have := congrArg Prod.fst hc'; cases this; rfl
  subst this
  exact hrun
set_option maxRecDepth 100000 in
set_option maxHeartbeats 1000000 in
theorem dread_any (w : World) (base : Nat) (F : Nat → Prop) (p : Nat) (s : St) (i : Int) (N : Nat) (hP : PD w base F p s) (hok : s.Ok N) (hN : N ≤ 900000) (hi : -9223372036854775808 ≤ i ∧ i ≤ 9223372036854775807) :
    Calls Tryz.prog 85 #[.pointer (some ⟨p, 0, none⟩), .int .i64 i] w fun e w' => e = .returned (.tuple #[.string (readS s i), .int .i64 (opE s (hasF s i))]) ∧ PD w' base F p (opS s (hasF s i)) ∧ Kp F w w' := by
  obtain ⟨vs, vp, bm, D, hv, hf⟩ := hP
  obtain ⟨ao, cap, rfl⟩ := pdv_vs hv
  obtain ⟨po, pcap, rfl⟩ := pdv_vp hv
  have hl2 : s.armed = true → s.left ≤ 9223372036854775807 := fun e => (hok.arm e).2
  have ho3 : 0 ≤ s.ops ∧ s.ops ≤ 1000000 := ⟨hok.ops0, by have := hok.opsN; omega⟩
  have HV := Lib.hid hv
  have HF := Lib.hid hf
  obtain ⟨E, hE⟩ : ∃ E, opE s (hasF s i) = E := ⟨_, rfl⟩
  have HE := Lib.hid hE
  rw [hE]
  obtain ⟨hs1, hs2⟩ := opS_secs s (hasF s i)
  have HS := Lib.hid (And.intro hs1 hs2)
  clear hf hs1 hs2
  by_cases h0 : E = 0
  · subst h0
    obtain ⟨m, rfl, hm⟩ := hasF_parts (opE_may hE)
    have hr : readS s (m : Int) = standF s.pend (s.secs.getD m noS) m := by unfold readS; rw [if_pos hE]; rfl
    rw [hr]
    have hz : ∀ W, PDv W base p (.slice ao s.secs.length cap) (.slice po s.pend.length pcap) bm D (opS s (hasF s (m : Int))) → ∃ g, ao = some ⟨g, 0, none⟩ ∧ W.cell? ⟨g, m, none⟩ = some (.string (s.secs.getD m noS)) := by
      intro W hW
      obtain ⟨_, hrow, _⟩ := hW
      rw [HS.out.1] at hrow
      obtain ⟨g, rfl⟩ : ∃ g, ao = some ⟨g, 0, none⟩ := by
        rcases hrow.2 with ⟨_, h0⟩ | ⟨g, _, _, he, _⟩
        · omega
        · injection he with h3 _ _; exact ⟨g, h3⟩
      exact ⟨g, rfl, by rw [hrow.cellAt m (by omega)]; exact strs_at (by omega)⟩
    obtain ⟨S0, hS0⟩ : ∃ S0, s.secs.getD m noS = S0 := ⟨_, rfl⟩
    rw [hS0] at hz ⊢
    have HZ := Lib.hid hz
    clear hS0
    have hmap := hv.2.2.2.2.1 (m : Int)
    clear hE hz hr hv
    have opn : ∀ w1, w.grownBy w1 none → Blk w1 (w.heap.size + 1) 3 #[.int .i64 (m : Int)] → Blk w1 w.heap.size 57 #[.pointer (some ⟨p, 0, none⟩)] → Calls Tryz.prog 95 #[.pointer (some ⟨p, 0, none⟩), .slice (some ⟨w1.heap.size, 0, none⟩) 1 1] (w1.alloc (.cells #[hasV (w.heap.size + 1) w.heap.size] 166)) (fun e w2 => e = .returned (.int .i64 0) ∧ w.grownBy w2 (some p) ∧ PDv w2 base p (.slice ao s.secs.length cap) (.slice po s.pend.length pcap) bm D (opS s (hasF s (m : Int)))) := by
      intro w1 g1 hb1 hb2
      have ga := gb_alloc w1 (.cells #[hasV (w.heap.size + 1) w.heap.size] 166) none
      have hq := (Blk.mk w1 166 #[hasV (w.heap.size + 1) w.heap.size]).cell 0 rfl
      have hP1 := HV.out.keep0 (gb_trans g1 ga)
      refine (operate_one _ p w1.heap.size (w.heap.size + 1) w.heap.size (m : Int) ao cap _ bm s hP1.1 hl2 ho3 (hb1.keep0 ga) (hb2.keep0 ga) hq).mono ?_
      rintro e w2 ⟨rfl, hb, g2⟩
      exact ⟨by rw [HE.out], gb_trans (gb_weak (gb_trans g1 ga) _) g2, pdv_turn hP1 HS.out.1 HS.out.2 hb g2⟩
    have HO := Lib.hid opn
    clear opn
    rcases hmap with ⟨hA, hB⟩ | ⟨hA, c, d, hC, hD, hB⟩
    · have hsd := standF_none s.pend S0 m hB
      rw [hsd]
      clear hsd hB
      go_enter Tryz.func85, Tryz.ntmps85
      go_wp2_with (first
        | (go_at_call 96; (with_reducible refine (hasSector_any _ _ _).mono ?_); rintro e w1 ⟨rfl, hb1, hb2, g1⟩)
        | (go_at_call 95; (refine (HO.out w1 g1 hb1 hb2).mono ?_); rintro e w2 ⟨rfl, g2, hP2⟩; obtain ⟨c0, c1, c2, _, _, _, _⟩ := dk_cells hP2.1; obtain ⟨g, rfl, z⟩ := HZ.out _ hP2; obtain ⟨v, hrun⟩ := look_no hP2.2.2.2.1 (m : Int) hi hA; clear hb1 hb2; have HP2 := Lib.hid hP2; clear hP2))
      go_ret2
      exact ⟨rfl, ⟨_, _, _, _, HP2.out, HF.out⟩, Kp.of g2 (fun k e => by cases e; exact HF.out _ (.inl rfl))⟩
    · rw [hB]
      clear hB
      have hy : ∀ W, PDv W base p (.slice ao s.secs.length cap) (.slice po s.pend.length pcap) bm D (opS s (hasF s (m : Int))) → ∃ g, po = some ⟨g, 0, none⟩ ∧ W.cell? ⟨g, c * 2 + 1, none⟩ = some (.string d) := by
        intro W hW
        obtain ⟨_, _, hrow, _⟩ := hW
        rw [HS.out.2] at hrow
        have hc := (List.getElem?_eq_some_iff.1 hD).1
        obtain ⟨g, rfl⟩ : ∃ g, po = some ⟨g, 0, none⟩ := by
          rcases hrow.2 with ⟨_, h0⟩ | ⟨g, _, _, he, _⟩
          · omega
          · injection he with h3 _ _; exact ⟨g, h3⟩
        exact ⟨g, rfl, by rw [hrow.cellAt (c * 2 + 1) (by omega)]; exact (wrC_at s.pend c _ hD).2⟩
      have HY := Lib.hid hy
      have hc := (List.getElem?_eq_some_iff.1 hD).1
      clear hy hD
      go_enter Tryz.func85, Tryz.ntmps85
      go_wp2_with (first
        | (go_at_call 96; (with_reducible refine (hasSector_any _ _ _).mono ?_); rintro e w1 ⟨rfl, hb1, hb2, g1⟩)
        | (go_at_call 95; (refine (HO.out w1 g1 hb1 hb2).mono ?_); rintro e w2 ⟨rfl, g2, hP2⟩; obtain ⟨c0, c1, c2, _, _, _, _⟩ := dk_cells hP2.1; obtain ⟨g, rfl, z⟩ := HY.out _ hP2; have hrun := look_yes hP2.2.2.2.1 (m : Int) hi hA c hC; clear hb1 hb2; have HP2 := Lib.hid hP2; clear hP2))
      go_ret2
      exact ⟨rfl, ⟨_, _, _, _, HP2.out, HF.out⟩, Kp.of g2 (fun k e => by cases e; exact HF.out _ (.inl rfl))⟩
  · have hr : readS s i = noS := by unfold readS; rw [if_neg (by rw [hE]; exact h0)]
    have hne : (E != 0) = true := by simp [h0]
    rw [hr]
    clear hr hE h0
    have opn : ∀ w1, w.grownBy w1 none → Blk w1 (w.heap.size + 1) 3 #[.int .i64 i] → Blk w1 w.heap.size 57 #[.pointer (some ⟨p, 0, none⟩)] → Calls Tryz.prog 95 #[.pointer (some ⟨p, 0, none⟩), .slice (some ⟨w1.heap.size, 0, none⟩) 1 1] (w1.alloc (.cells #[hasV (w.heap.size + 1) w.heap.size] 166)) (fun e w2 => e = .returned (.int .i64 E) ∧ w.grownBy w2 (some p) ∧ PDv w2 base p (.slice ao s.secs.length cap) (.slice po s.pend.length pcap) bm D (opS s (hasF s i))) := by
      intro w1 g1 hb1 hb2
      have ga := gb_alloc w1 (.cells #[hasV (w.heap.size + 1) w.heap.size] 166) none
      have hq := (Blk.mk w1 166 #[hasV (w.heap.size + 1) w.heap.size]).cell 0 rfl
      have hP1 := HV.out.keep0 (gb_trans g1 ga)
      refine (operate_one _ p w1.heap.size (w.heap.size + 1) w.heap.size i ao cap _ bm s hP1.1 hl2 ho3 (hb1.keep0 ga) (hb2.keep0 ga) hq).mono ?_
      rintro e w2 ⟨rfl, hb, g2⟩
      exact ⟨by rw [HE.out], gb_trans (gb_weak (gb_trans g1 ga) _) g2, pdv_turn hP1 HS.out.1 HS.out.2 hb g2⟩
    have HO := Lib.hid opn
    clear opn hv
    go_enter Tryz.func85, Tryz.ntmps85
    go_wp2_with (first
      | (go_at_call 96; (with_reducible refine (hasSector_any _ _ _).mono ?_); rintro e w1 ⟨rfl, hb1, hb2, g1⟩)
      | (go_at_call 95; (refine (HO.out w1 g1 hb1 hb2).mono ?_); rintro e w2 ⟨rfl, g2, hP2⟩; clear hb1 hb2; have HP2 := Lib.hid hP2; clear hP2))
    go_ret2
    exact ⟨rfl, ⟨_, _, _, _, HP2.out, HF.out⟩, Kp.of g2 (fun k e => by cases e; exact HF.out _ (.inl rfl))⟩
/-- What a call leaves that answers one thing and changes nothing. -/
theorem clear_run {w : World} {bm n : Nat} {D : DataW Unit} (h : w.ownsMap Tryz.prog 3 (plainElem Tryz.prog 3) bm n D) (ty : TypeId) :
    ∃ w', (Builtin.clear_ #[112] ty #[.map (some bm)]).run Tryz.prog w = .ok (.tuple #[]) w' ∧ w'.ownsMap Tryz.prog 3 (plainElem (H := Unit) Tryz.prog 3) bm 0 (.map []) ∧ w.grownBy w' (some bm) := by
  obtain ⟨es, clock, hb, F, hs, _⟩ := h
  refine ⟨setBlock w bm (.map #[] clock), ?_, ⟨#[], clock, heap_setBlock_same hb _, ⟨by simp, MapKept.stamped_empty clock, by simp⟩, Nat.le_refl _, rfl⟩, ⟨rfl, rfl, rfl, by simp [setBlock], fun i _ hi => heap_setBlock_other hb _ (fun e => hi (by rw [e]))⟩⟩
  simp [Builtin.clear_, run_underlying Tryz.underlying112, MapKept.run_getObj_map hb, MapKept.run_setObj_map _ hb, Result.andThen, setBlock]
set_option maxRecDepth 100000 in
theorem dforget_any (w : World) (base p : Nat) (vs vp : Value) (bm : Nat) (D : DataW Unit) (s : St) (h : PDv w base p vs vp bm D s) :
    Calls Tryz.prog 98 #[.pointer (some ⟨p, 0, none⟩)] w fun e w' => e = .returned (.tuple #[]) ∧ PDv w' base p vs (.slice none 0 0) bm (.map []) { s with pend := [] } ∧ Kp (fun k => k = p ∨ k = bm) w w' := by
  obtain ⟨a1, a2, a3, a4, a5, a6, a7⟩ := h
  have f1 := a1.free 1
  have n1 : Blk (w.setCell ⟨p, 1, none⟩ (.slice none 0 0)) p 114 (dkC vs (.slice none 0 0) bm { s with pend := [] }) := a1.set 1 _
  have g1 := gb_set w p 1 none (.slice none 0 0)
  have n2 := a2.kept g1 (Or.inr (blk_row a1 a2 (by decide)))
  have n4 := a4.kept g1 (ne_some (map_blk a4 a1).symm)
  have hpb := map_blk a4 a1
  obtain ⟨w2, hcl, m4, g2⟩ := clear_run n4 0
  obtain ⟨_, e1, e2, _, _, _, _⟩ := dk_cells a1
  obtain ⟨_, _, c2, _, _, _, _⟩ := dk_cells n1
  have hfin : PDv w2 base p vs (.slice none 0 0) bm (.map []) { s with pend := [] } := ⟨n1.keep g2 (ne_some hpb), n2.kept g2 (Or.inr (map_row n4 n2)), World.ownsRow_nil _ _ _ _, m4, mapIs_nil, a6, a7⟩
  have hk : Kp (fun k => k = p ∨ k = bm) w w2 := (Kp.of g1 (fun k e => by cases e; exact .inl rfl)).step g2 (fun k e => by cases e; exact .inl (.inr rfl))
  have HF := Lib.hid (And.intro hfin hk)
  clear hfin hk n2 n4 m4 a1 a2 a3 a4 a5
  go_enter Tryz.func98, Tryz.ntmps98
  go_wp2
  go_end0
  exact ⟨rfl, HF.out.1, HF.out.2⟩
theorem arm_lo {s : St} {n : Int} (h : n < 0) : armS s n = { s with armed := false, left := 0 } := by
  unfold armS; rw [decide_eq_false (by omega), show max n 0 = 0 by omega]
theorem arm_hi {s : St} {n : Int} (h : 0 ≤ n) : armS s n = { s with armed := true, left := n } := by
  unfold armS; rw [decide_eq_true h, show max n 0 = n by omega]
set_option maxRecDepth 100000 in
theorem dsectors_any (w : World) (base : Nat) (F : Nat → Prop) (p : Nat) (s : St) (hP : PD w base F p s) :
    Calls Tryz.prog 57 #[.pointer (some ⟨p, 0, none⟩)] w fun e w' => e = .returned (.int .i64 (s.secs.length : Nat)) ∧ w = w' := by
  obtain ⟨vs, vp, bm, D, hv, hf⟩ := hP
  obtain ⟨po, pcap, rfl⟩ := pdv_vs hv
  obtain ⟨c0, c1, _, c3, c4, _, _⟩ := dk_cells hv.1
  go_enter Tryz.func57, Tryz.ntmps57
  go_wp2
  go_ret
  exact ⟨rfl, rfl⟩
end Go.Proofs.YtliiooldlooagaaGreatDoor.D5

/-
  The disk's Write, over this seat's translation; conditions: the disk lies as Dk0 tells, its counts are small.
-/
namespace Go.Proofs.YtliiooldlooagaaGreatDoor.D5
open Go.RowKit Go.Maps

/-- An append to a row of one's own, and where the new row lies: where it lay, or in new memory. -/
theorem near_append {P : Program} (w : World) (base : Nat) (t ty e : TypeId) (i : TypeInfo) (z : Value) (size bytes : Nat) (ht : P.underlying t = some (.slice e)) (hi : P.info? e = some i) (hz : i.zero = some z)
    (hsize : i.size = size) (hby : i.bytes = bytes) (hzs : z.cells.size = size) (hsz : 0 < size)
    (v : Value) (n : Nat) (xs : List Value) (hown : w.ownsRow base e size v n xs)
    (a : Addr) (m c : Nat) (news : List Value) (hl : news.length = m * size) (hnews : ∀ j u, news[j]? = some u → w.cell? (a.add j) = some u) (h1 : ∀ u ∈ news, u.oneCell' = true)
    (h63 : n + m ≤ maxLen) (hbytes : (n + m) * bytes ≤ 140737488355328) (hbase : base ≤ w.heap.size) :
    ∃ v' w', (Builtin.append_ #[t, t] ty #[v, .slice (some a) m c]).run P w = .ok v' w' ∧ w'.ownsRow base e size v' (n + m) (xs ++ news) ∧ w.grownBy w' v.ownBlock ∧ ∀ k, v'.ownBlock = some k → v.ownBlock = some k ∨ w.heap.size ≤ k := by
  obtain ⟨v', w', hr, h2, h3, _⟩ := run_append_own (P := P) w base t ty e i z size bytes ht hi hz hsize hby hzs hsz v n xs hown a m c news hl hnews h1 h63 hbytes hbase
  refine ⟨v', w', hr, h2, h3, ?_⟩
  have hown' := hown
  rcases hown.2 with ⟨rfl, rfl⟩ | ⟨g, cap, cur, rfl, hbg, hg, hnc, hcm, hcs, htake⟩
  · have hx : xs = [] := List.eq_nil_of_length_eq_zero (by simpa using hown.1)
    subst hx
    obtain ⟨v2, w2, hr2, k2, _, _⟩ := run_append_own (P := P) w w.heap.size t ty e i z size bytes ht hi hz hsize hby hzs hsz _ 0 [] (World.ownsRow_nil w w.heap.size e size) a m c news hl hnews h1 h63 hbytes (Nat.le_refl _)
    rw [hr] at hr2
    obtain ⟨rfl, rfl⟩ : v' = v2 ∧ w' = w2 := by cases hr2; exact ⟨rfl, rfl⟩
    exact fun k hk => .inr (k2.lt k hk).1
  · by_cases hroom : n + m ≤ cap
    · obtain ⟨w2, hr2, _, _⟩ := run_append_fits (P := P) w base t ty e i size ht hi hsize g n cap xs hown' a m c news hl hnews h1 hroom
      rw [hr] at hr2
      obtain ⟨rfl, rfl⟩ : v' = .slice (some ⟨g, 0, none⟩) (n + m) cap ∧ w' = w2 := by cases hr2; exact ⟨rfl, rfl⟩
      exact fun k hk => .inl hk
    · subst hsize
      subst hby
      have hr2 := run_append_grow (P := P) w t ty e i z ht hi hz ⟨g, 0, none⟩ n cap xs hown.1 (hown.cells (g := g) rfl) a m c news hl hnews (by omega) (by simp only [maxLen] at h63; omega) (growslice_fits (by omega) hbytes)
      rw [hr] at hr2
      intro k hk
      right
      injection hr2 with e1 _
      rw [e1] at hk
      cases hk
      exact Nat.le_refl _
set_option maxRecDepth 100000 in
set_option maxHeartbeats 1000000 in
theorem dwrite_any (w : World) (base : Nat) (F : Nat → Prop) (p : Nat) (s : St) (i : Int) (d : ByteArray) (N : Nat) (hP : PD w base F p s) (hok : s.Ok N) (hN : N ≤ 900000) (hb0 : base ≤ w.heap.size) (hi : -9223372036854775808 ≤ i ∧ i ≤ 9223372036854775807) :
    Calls Tryz.prog 65 #[.pointer (some ⟨p, 0, none⟩), .int .i64 i, .string d] w fun e w' => e = .returned (.int .i64 (opE s (mayW s i d))) ∧ PD w' base (Nw F w w') p (writeT s i d) ∧ Kp F w w' := by
  obtain ⟨vs, vp, bm, D, hv, hf⟩ := hP
  obtain ⟨ao, cap, rfl⟩ := pdv_vs hv
  obtain ⟨i0, hi0, hz0, hz1, hz2⟩ := info_parts Tryz.infoWr
  have hl2 : s.armed = true → s.left ≤ 9223372036854775807 := fun e => (hok.arm e).2
  have ho3 : 0 ≤ s.ops ∧ s.ops ≤ 1000000 := ⟨hok.ops0, by have := hok.opsN; omega⟩
  have hpl := hok.plen
  have HV := Lib.hid hv
  have HF := Lib.hid hf
  obtain ⟨E, hE⟩ : ∃ E, opE s (mayW s i d) = E := ⟨_, rfl⟩
  have HE := Lib.hid hE
  rw [hE]
  obtain ⟨hs1, hs2⟩ := opS_secs s (mayW s i d)
  have HS := Lib.hid (And.intro hs1 hs2)
  clear hf hs1 hs2 hv
  have opn : ∀ w1 w2, w.grownBy w1 none → Blk w1 (w.heap.size + 1) 3 #[.int .i64 i] → Blk w1 w.heap.size 57 #[.pointer (some ⟨p, 0, none⟩)] → w1.grownBy w2 none → Blk w2 w1.heap.size 9 #[.string d] → Calls Tryz.prog 95 #[.pointer (some ⟨p, 0, none⟩), .slice (some ⟨w2.heap.size, 0, none⟩) 2 2] (w2.alloc (.cells #[hasV (w.heap.size + 1) w.heap.size, fillsV w1.heap.size] 166)) (fun e w3 => e = .returned (.int .i64 E) ∧ w.grownBy w3 (some p) ∧ PDv w3 base p (.slice ao s.secs.length cap) vp bm D (opS s (mayW s i d))) := by
    intro w1 w2 g1 hb1 hb2 g2 hb3
    have ga := gb_alloc w2 (.cells #[hasV (w.heap.size + 1) w.heap.size, fillsV w1.heap.size] 166) none
    have hq := (Blk.mk w2 166 #[hasV (w.heap.size + 1) w.heap.size, fillsV w1.heap.size]).cell 0 rfl
    have hq2 := (Blk.mk w2 166 #[hasV (w.heap.size + 1) w.heap.size, fillsV w1.heap.size]).cell 1 rfl
    have g12 := gb_trans g2 ga
    have hP1 := HV.out.keep0 (gb_trans g1 g12)
    refine (operate_two _ p w2.heap.size (w.heap.size + 1) w.heap.size i ao cap _ bm s hP1.1 hl2 ho3 (hb1.keep0 g12) (hb2.keep0 g12) hq w1.heap.size d (hb3.keep0 ga) hq2).mono ?_
    rintro e w3 ⟨rfl, hb, g3⟩
    exact ⟨by rw [HE.out], gb_trans (gb_weak (gb_trans g1 g12) _) g3, pdv_turn hP1 HS.out.1 HS.out.2 hb g3⟩
  have HO := Lib.hid opn
  clear opn
  by_cases h0 : E = 0
  · subst h0
    have hwt : writeT s i d = { opS s (mayW s i d) with pend := s.pend ++ [(i, d)] } := by unfold writeT; rw [if_pos hE]
    rw [hwt]
    clear hE hwt
    generalize opS s (mayW s i d) = s1 at HS HO ⊢
    -- what the two writes into the disk make of it
    have fin : ∀ w3, w.grownBy w3 (some p) → PDv w3 base p (.slice ao s.secs.length cap) vp bm D s1 → ∃ w4 v5 w5 po pcap o5 c5, vp = .slice po s.pend.length pcap ∧ v5 = .slice o5 (s.pend.length + 1) c5 ∧ (Instr.mapUpdate 112 (.map (some bm)) (.int .i64 i) (.int .i64 (s.pend.length : Nat))).run Tryz.prog w3.drew = .ok () w4 ∧
        (Builtin.append_ #[75, 75] 75 #[vp, .slice (some ⟨w4.heap.size, 0, none⟩) 1 1]).run Tryz.prog (w4.alloc (.cells #[.int .i64 i, .string d] 105)) = .ok v5 w5 ∧
        (w4.cell? ⟨p, 1, none⟩ = some vp ∧ w4.frozen? ⟨p, 1, none⟩ = false ∧ w5.cell? ⟨p, 1, none⟩ = some vp ∧ w5.frozen? ⟨p, 1, none⟩ = false) ∧
        PD (w5.setCell ⟨p, 1, none⟩ v5) base (Nw F w (w5.setCell ⟨p, 1, none⟩ v5)) p { s1 with pend := s.pend ++ [(i, d)] } ∧ Kp F w (w5.setCell ⟨p, 1, none⟩ v5) := by
      intro w3 g3 hP3
      obtain ⟨po, pcap, hpo⟩ := pdv_vp hP3
      rw [HS.out.2] at hpo
      obtain ⟨a1, a2, a3, a4, a5, a6, a7⟩ := hP3
      rw [HS.out.2] at a3 a4 a5
      obtain ⟨w4, hup, m4, g4⟩ := (a4.drew).update lawI Tryz.underlying112 (by unfold maxLen; omega) (keyOf_int_mk Tryz.underlying3 (i64_wf' hi)) (plainElem_int (H := Unit) (a := (s.pend.length : Nat)) Tryz.underlying3 (i64_wf' (by omega)))
      have g34 : w3.grownBy w4 (some bm) := gb_trans (gb_drew _ _) g4
      have hpb := map_blk a4 a1
      have b4 := a1.keep g34 (ne_some hpb)
      have r4 := a2.kept g34 (Or.inr (map_row a4 a2))
      have q4 := a3.kept g34 (Or.inr (map_row a4 a3))
      have ga := gb_alloc w4 (.cells #[.int .i64 i, .string d] 105) none
      have hsz := g3.size
      have hsz4 := g34.size
      obtain ⟨v5, w5, hap, q5, g5, hnear⟩ := near_append (P := Tryz.prog) (w4.alloc (.cells #[.int .i64 i, .string d] 105)) base 75 75 105 i0 (.agg #[.int .i64 0, .string ⟨#[]⟩]) 2 24 Tryz.underlying75 hi0 hz0 hz1 hz2 rfl (by decide) vp s.pend.length _ (q4.alloc _) ⟨w4.heap.size, 0, none⟩ 1 1 [.int .i64 i, .string d] rfl (cells2_new _ _ _ _) (one_wr _ _) (by unfold maxLen; omega) (by omega) (by simp; omega)
      obtain ⟨o5, c5, hv5, _⟩ := Sl.of_owns q5
      have hne : vp.ownBlock ≠ some p := blk_row a1 a3 (by decide)
      have b5 := (b4.keep0 ga).keep g5 hne.symm
      have r5 := (own_keep0' r4 ga).kept g5 (by
        cases hx : (Value.slice ao s.secs.length cap).ownBlock with
        | none => exact .inl rfl
        | some k => exact .inr (fun e => row_row a2 a3 (by decide) k hx e.symm))
      have m5 := (m4.kept ga (by simp)).kept g5 (map_row a4 a3).symm
      have gs := gb_set w5 p 1 none v5
      have b6 := b5.set 1 v5
      refine ⟨w4, v5, w5, po, pcap, o5, c5, hpo, hv5, hup, hap, ⟨b4.cell 1 rfl, b4.free 1, b5.cell 1 rfl, b5.free 1⟩, ⟨_, v5, bm, D.put (.int .i64 i) (.lit (.int .i64 (s.pend.length : Nat))), ⟨b6, r5.kept gs (Or.inr (blk_row b5 r5 (by decide))), ?_, ?_, mapIs_put a5 (World.ownsMap.isMap a4) i d, a6, a7⟩, ?_⟩, ?_⟩
      · show (w5.setCell ⟨p, 1, none⟩ v5).ownsRow base _ 2 v5 (s.pend ++ [(i, d)]).length (wrC (s.pend ++ [(i, d)]))
        rw [wrC_snoc, List.length_append]
        exact q5.kept gs (Or.inr (blk_row b5 q5 (by decide)))
      · show (w5.setCell ⟨p, 1, none⟩ v5).ownsMap _ _ _ bm (s.pend ++ [(i, d)]).length _
        rw [List.length_append]
        exact m5.kept gs (ne_some hpb.symm)
      · intro k hk
        rcases hk with rfl | rfl | hk | hk
        · exact .inl (HF.out _ (.inl rfl))
        · exact .inl (HF.out _ (.inr (.inl rfl)))
        · exact .inl (HF.out _ (.inr (.inr (.inl hk))))
        · rcases hnear k hk with h1 | h1
          · exact .inl (HF.out _ (.inr (.inr (.inr h1))))
          · refine .inr ⟨?_, ?_⟩
            · simp at h1; omega
            · have := (q5.lt k hk).2
              have := gs.size
              omega
      · have k1 : Kp F w w3 := Kp.of g3 (fun k e => by cases e; exact HF.out _ (.inl rfl))
        have k2 := k1.step g34 (fun k e => by cases e; exact .inl (HF.out _ (.inr (.inl rfl))))
        have k3 := (k2.step0 ga).step g5 (fun k e => .inl (HF.out _ (.inr (.inr (.inr e)))))
        exact k3.step gs (fun k e => by cases e; exact .inl (HF.out _ (.inl rfl)))
    have HFin := Lib.hid fin
    clear fin
    go_enter Tryz.func65, Tryz.ntmps65
    go_wp2_with (first
      | (go_at_call 96; (with_reducible refine (hasSector_any _ _ _).mono ?_); rintro e w1 ⟨rfl, hb1, hb2, g1⟩)
      | (go_at_call 97; (with_reducible refine (fillsSector_any _ _).mono ?_); rintro e w2 ⟨rfl, hb3, g2⟩)
      | (go_at_call 95; (refine (HO.out w1 w2 g1 hb1 hb2 g2 hb3).mono ?_); rintro e w3 ⟨rfl, g3, hP3⟩; obtain ⟨c0, c1, c2, _, _, _, _⟩ := dk_cells hP3.1; obtain ⟨w4, v5, w5, po, pcap, o5, c5, rfl, rfl, hup, hap, ⟨d1, e1, d2, e2⟩, hfin, hkp⟩ := HFin.out w3 g3 hP3; clear hb1 hb2 hb3 hP3 g1 g2; have HX := Lib.hid (And.intro hfin hkp); clear hfin hkp; have HA := Lib.hid hap; clear hap))
    go_region
    all_goals go_wp2_with (at_builtin; go_must (refine list_append_run rfl _ _ 75 rfl _ _ rfl rfl _ _ HA.out rfl ?_))
    all_goals go_ret
    all_goals exact ⟨rfl, HX.out.1, HX.out.2⟩
  · have hwt : writeT s i d = opS s (mayW s i d) := by unfold writeT; rw [if_neg (by rw [hE]; exact h0)]
    have hne : (E != 0) = true := by simp [h0]
    rw [hwt]
    clear hE hwt h0
    go_enter Tryz.func65, Tryz.ntmps65
    go_wp2_with (first
      | (go_at_call 96; (with_reducible refine (hasSector_any _ _ _).mono ?_); rintro e w1 ⟨rfl, hb1, hb2, g1⟩)
      | (go_at_call 97; (with_reducible refine (fillsSector_any _ _).mono ?_); rintro e w2 ⟨rfl, hb3, g2⟩)
      | (go_at_call 95; (refine (HO.out w1 w2 g1 hb1 hb2 g2 hb3).mono ?_); rintro e w3 ⟨rfl, g3, hP3⟩; clear hb1 hb2 hb3 g1 g2; have HX := Lib.hid hP3; clear hP3))
    go_ret
    exact ⟨rfl, ⟨_, _, _, _, HX.out, fun k hk => .inl (HF.out k hk)⟩, Kp.of g3 (fun k e => by cases e; exact HF.out _ (.inl rfl))⟩
end Go.Proofs.YtliiooldlooagaaGreatDoor.D5

/-
  The disk's Barrier and Boot, over this seat's translation; conditions: the disk lies as Dk0 tells, its counts are small; for Boot the table of masks as the program lays it.
-/
namespace Go.Proofs.YtliiooldlooagaaGreatDoor.D5
open Go.RowKit Go.Maps

theorem take_one {α : Type} (l : List α) (k : Nat) (x : α) (h : l[k]? = some x) : l.take (k + 1) = l.take k ++ [x] := by
  rw [List.take_add_one, h]; rfl
/-- A sector is laid. -/
theorem pdv_lay {w : World} {base p g n m c : Nat} {vp : Value} {bm : Nat} {D : DataW Unit} {s : St} (h : PDv w base p (.slice (some ⟨g, 0, none⟩) n c) vp bm D s) (hn : n = s.secs.length) (d : ByteArray) (hm : m < n) :
    PDv (w.setCell ⟨g, m, none⟩ (.string d)) base p (.slice (some ⟨g, 0, none⟩) n c) vp bm D { s with secs := s.secs.set m d } := by
  subst hn
  obtain ⟨a1, a2, a3, a4, a5, a6, a7⟩ := h
  have gs := gb_set w g m none (.string d)
  obtain ⟨r, _⟩ := a2.stored m (.string d)
  refine ⟨a1.keep gs ?_, ?_, a3.kept gs (Or.inr ?_), a4.kept gs ?_, a5, a6, a7⟩
  · exact (blk_row a1 a2 (by decide)).symm
  · show (w.setCell ⟨g, m, none⟩ (.string d)).ownsRow base _ 1 _ (s.secs.set m d).length (strsC (s.secs.set m d))
    have e : strsC (s.secs.set m d) = (strsC s.secs).set m (.string d) := by unfold strsC; rw [List.map_set]
    rw [e, List.length_set]; exact r
  · exact fun e => row_row a3 a2 (by decide) g e rfl
  · exact (map_row a4 a2).symm
set_option maxRecDepth 100000 in
set_option maxHeartbeats 1000000 in
theorem dbarrier_any (w : World) (base : Nat) (F : Nat → Prop) (p : Nat) (s : St) (N : Nat) (hP : PD w base F p s) (hok : s.Ok N) (hN : N ≤ 900000) :
    Calls Tryz.prog 66 #[.pointer (some ⟨p, 0, none⟩)] w fun e w' => e = .returned (.int .i64 (opE s true)) ∧ PD w' base F p (barS s) ∧ Kp F w w' := by
  obtain ⟨vs, vp, bm, D, hv, hf⟩ := hP
  obtain ⟨ao, cap, rfl⟩ := pdv_vs hv
  obtain ⟨po, pcap, rfl⟩ := pdv_vp hv
  have hl2 : s.armed = true → s.left ≤ 9223372036854775807 := fun e => (hok.arm e).2
  have ho3 : 0 ≤ s.ops ∧ s.ops ≤ 1000000 := ⟨hok.ops0, by have := hok.opsN; omega⟩
  have hpl := hok.plen
  have HV := Lib.hid hv
  have HF := Lib.hid hf
  obtain ⟨E, hE⟩ : ∃ E, opE s true = E := ⟨_, rfl⟩
  have HE := Lib.hid hE
  rw [hE]
  obtain ⟨hs1, hs2⟩ := opS_secs s true
  have HS := Lib.hid (And.intro hs1 hs2)
  clear hf hs1 hs2
  have opn : Calls Tryz.prog 95 #[.pointer (some ⟨p, 0, none⟩), .slice none 0 0] w (fun e w3 => e = .returned (.int .i64 E) ∧ w.grownBy w3 (some p) ∧ PDv w3 base p (.slice ao s.secs.length cap) (.slice po s.pend.length pcap) bm D (opS s true)) := by
    refine (operate_none _ p _ _ bm s HV.out.1 hl2 ho3).mono ?_
    rintro e w3 ⟨rfl, hb, g3⟩
    exact ⟨by rw [HE.out], g3, pdv_turn HV.out HS.out.1 HS.out.2 hb g3⟩
  have HO := Lib.hid opn
  clear opn hv
  by_cases h0 : E = 0
  · subst h0
    have hbt : barS s = { opS s true with secs := laidF s.pend s.secs, pend := [] } := by unfold barS; rw [if_pos hE]
    rw [hbt]
    clear hE hbt
    have heach := hok.each
    generalize opS s true = s1 at HS HO ⊢
    go_enter Tryz.func66, Tryz.ntmps66
    go_wp2_with (go_at_call 95; (refine (HO.out).mono ?_); rintro e w3 ⟨rfl, g3, hP3⟩; obtain ⟨c0, c1, c2, _, _, _, _⟩ := dk_cells hP3.1; have HP3 := Lib.hid hP3; clear hP3)
    clear c0 c1 c2
    have hkp := Kp.of g3 (F := F) (fun k e => by cases e; exact HF.out _ (.inl rfl))
    go_loopw [5, 16] (fun _ v wr => ∃ k : Nat, k ≤ s.pend.length ∧ v = .int .i64 k ∧ PDv wr base p (.slice ao s.secs.length cap) (.slice po s.pend.length pcap) bm D { s1 with secs := laidF (s.pend.take k) s.secs } ∧ Kp F w wr) (fun _ v _ => s.pend.length - (intOf v).toNat)
    case atStart =>
      refine ⟨0, by omega, rfl, ?_, hkp⟩
      have : ({ s1 with secs := laidF (s.pend.take 0) s.secs } : St) = s1 := by
        show ({ s1 with secs := s.secs } : St) = s1
        rw [← HS.out.1]
      rw [this]; exact HP3.out
    case round =>
      clear hkp HP3 g3
      obtain ⟨k, hk, rfl, hP, hkp⟩ := hrel
      by_cases hlt : k < s.pend.length
      · obtain ⟨⟨i, d⟩, hx⟩ : ∃ z, s.pend[k]? = some z := ⟨_, List.getElem?_eq_getElem hlt⟩
        obtain ⟨m, hm, hml, hd⟩ := heach _ (List.mem_of_getElem? hx)
        have hm' : i = (m : Int) := hm
        subst hm'
        have hrow := hP.2.2.1
        have hrs := hP.2.1
        have hpe : ({ s1 with secs := laidF (s.pend.take k) s.secs } : St).pend = s.pend := HS.out.2
        rw [hpe] at hrow
        obtain ⟨gp, rfl⟩ : ∃ g, po = some ⟨g, 0, none⟩ := by
          rcases hrow.2 with ⟨_, h0⟩ | ⟨g, _, _, he, _⟩
          · omega
          · injection he with h3 _ _; exact ⟨g, h3⟩
        have hll : (laidF (s.pend.take k) s.secs).length = s.secs.length := laidF_length _ _
        have hrs2 : wr.ownsRow base 9 1 (.slice ao s.secs.length cap) s.secs.length (strsC (laidF (s.pend.take k) s.secs)) := by
          have := hrs; rw [show ({ s1 with secs := laidF (s.pend.take k) s.secs } : St).secs.length = s.secs.length from hll] at this; exact this
        obtain ⟨gs, rfl⟩ : ∃ g, ao = some ⟨g, 0, none⟩ := by
          rcases hrs2.2 with ⟨_, h0⟩ | ⟨g, _, _, he, _⟩
          · omega
          · injection he with h3 _ _; exact ⟨g, h3⟩
        have r0 : wr.cell? ⟨gp, k * 2, none⟩ = some (.int .i64 (m : Nat)) := by rw [hrow.cellAt (k * 2) (by omega)]; exact (wrC_at s.pend k _ hx).1
        have r1 : wr.cell? ⟨gp, k * 2 + 1, none⟩ = some (.string d) := by rw [hrow.cellAt (k * 2 + 1) (by omega)]; exact (wrC_at s.pend k _ hx).2
        have ga := gb_alloc wr (.cells #[.int .i64 (m : Nat), .string d] 105) none
        have b9 := Blk.mk wr 105 #[.int .i64 (m : Nat), .string d]
        have hPa := hP.keep0 ga
        obtain ⟨c0, _, _, _, _, _, _⟩ := dk_cells hPa.1
        have s0 : (wr.alloc (.cells #[.int .i64 (m : Nat), .string d] 105)).cell? ⟨gs, m, none⟩ = some (.string ((laidF (s.pend.take k) s.secs).getD m noS)) := by
          rw [(own_keep0' hrs2 ga).cellAt m (by omega)]; exact strs_at (by omega)
        have s1' := (own_keep0' hrs2 ga).frozenAt m
        have b90 := b9.cell 0 rfl
        have b91 := b9.cell 1 rfl
        have hnx := take_one s.pend k _ hx
        have hm0 : (0 : Int) ≤ (m : Int) := by omega
        have hm1 : (m : Int) < (s.secs.length : Int) := by omega
        have hk0 : (0 : Int) ≤ (k : Int) := by omega
        have hk1 : (k : Int) < (s.pend.length : Int) := by omega
        have hE : laidF (s.pend.take (k + 1)) s.secs = (laidF (s.pend.take k) s.secs).set m d := by rw [hnx, laidF_snoc]; rfl
        have hnew : PDv ((wr.alloc (.cells #[.int .i64 (m : Nat), .string d] 105)).drew.setCell ⟨gs, m, none⟩ (.string d)) base p (.slice (some ⟨gs, 0, none⟩) s.secs.length cap) (.slice (some ⟨gp, 0, none⟩) s.pend.length pcap) bm D { s1 with secs := laidF (s.pend.take (k + 1)) s.secs } := by
          rw [hE]
          exact pdv_lay (s := { s1 with secs := laidF (s.pend.take k) s.secs }) (hPa.keep0 (gb_drew _ _)) hll.symm d (by omega)
        have hkn : Kp F w ((wr.alloc (.cells #[.int .i64 (m : Nat), .string d] 105)).drew.setCell ⟨gs, m, none⟩ (.string d)) :=
          ((hkp.step0 ga).step0 (gb_drew _ _)).step (gb_set _ _ _ _ _) (fun k e => by cases e; exact .inl (HF.out _ (.inr (.inr (.inl rfl)))))
        have HN := Lib.hid (And.intro hnew hkn)
        obtain ⟨L0, hL0⟩ : ∃ L0, (laidF (s.pend.take k) s.secs).getD m noS = L0 := ⟨_, rfl⟩
        rw [hL0] at s0
        clear hnew hkn hE hnx hP hkp hrow hrs hpe hll hrs2 hPa heach hx hm hL0 b9 ga
        go_wp2
        go_region
        all_goals go_wp2
        all_goals
          go_roundw
          case rel => exact ⟨k + 1, by omega, by go_num, HN.out.1, HN.out.2⟩
          case measure => simp [intOf]; omega
      · obtain rfl : k = s.pend.length := by omega
        rw [List.take_of_length_le (Nat.le_refl _)] at hP
        have hlt' : ¬ ((s.pend.length : Int) < (s.pend.length : Int)) := by omega
        go_wp2_with (go_at_call 98; (with_reducible refine (dforget_any _ base p _ _ bm D _ hP).mono ?_); rintro e w4 ⟨rfl, hP4, k4⟩)
        go_ret
        exact ⟨rfl, ⟨_, _, _, _, hP4, fun k hk => HF.out k (by
          rcases hk with h | h | h | h
          · exact .inl h
          · exact .inr (.inl h)
          · exact .inr (.inr (.inl h))
          · cases h)⟩, hkp.trans (k4.mono (fun k hk => by
          rcases hk with rfl | rfl
          · exact HF.out _ (.inl rfl)
          · exact HF.out _ (.inr (.inl rfl))))⟩
  · have hbt : barS s = opS s true := by unfold barS; rw [if_neg (by rw [hE]; exact h0)]
    have hne : (E != 0) = true := by simp [h0]
    rw [hbt]
    clear hE hbt h0
    go_enter Tryz.func66, Tryz.ntmps66
    go_wp2_with (go_at_call 95; (refine (HO.out).mono ?_); rintro e w3 ⟨rfl, g3, hP3⟩; have HX := Lib.hid hP3; clear hP3)
    go_ret
    exact ⟨rfl, ⟨_, _, _, _, HX.out, HF.out⟩, Kp.of g3 (fun k e => by cases e; exact HF.out _ (.inl rfl))⟩
end Go.Proofs.YtliiooldlooagaaGreatDoor.D5

/-
  The disk's Boot, over this seat's translation; conditions: the disk lies as Dk0 tells, its counts are small, the choices read as bytes, the table of masks as the program lays it.
-/
namespace Go.Proofs.YtliiooldlooagaaGreatDoor.D5
open Go.RowKit Go.Maps

theorem atF_range (cs : List UInt8) (n : Nat) : 0 ≤ atF cs n ∧ atF cs n ≤ 256 := by
  unfold atF; split <;> omega
theorem came_short (cs : List UInt8) (n : Int) : (cameF cs (manyN n)).length ≤ 1000000 := by rw [cameF_length]; have := manyN_le n; omega
/-- What becomes of the disk when the sectors are others. -/
theorem pdv_other {w : World} {base low p : Nat} {vs vs' vp : Value} {bm : Nat} {D : DataW Unit} {s : St} {l : List ByteArray} (h : PDv w base p vs vp bm D s) (own : w.ownsRow low 9 1 vs' l.length (strsC l)) (hl : base ≤ low) :
    PDv (w.setCell ⟨p, 0, none⟩ vs') base p vs' vp bm D { s with secs := l } := by
  obtain ⟨a1, a2, a3, a4, a5, a6, a7⟩ := h
  have gs := gb_set w p 0 none vs'
  exact ⟨a1.set 0 _, (owns_less own hl).kept gs (Or.inr (blk_row a1 own (by decide))), a3.kept gs (Or.inr (blk_row a1 a3 (by decide))), a4.kept gs (ne_some (map_blk a4 a1).symm), a5, a6, a7⟩
end Go.Proofs.YtliiooldlooagaaGreatDoor.D5
