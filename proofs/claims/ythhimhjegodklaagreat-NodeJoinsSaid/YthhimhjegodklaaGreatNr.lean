/-
  What the small calls of a reading answer and leave (begin, taken, must, isLongAhead, and the reader's calls), over this seat's translation; conditions: the reading lies as it is told, its text is no longer than a machine's numbers tell.
-/
import Derived.Test.YthhimhjegodklaaGreatNq
namespace Go.Proofs.YthhimhjegodklaaGreat.N11
set_option linter.unusedSimpArgs false
set_option linter.unusedVariables false
open Go.RowKit
/-- Nothing but two blocks was changed. -/
structure Kq (b g : Nat) (w w' : World) : Prop where
  os : w'.os = w.os
  tape : w'.tape = w.tape
  output : w'.output = w.output
  size : w.heap.size ≤ w'.heap.size
  block : ∀ k, k < w.heap.size → k ≠ b → k ≠ g → w'.heap[k]? = w.heap[k]?
theorem Kq.refl (b g : Nat) (w : World) : Kq b g w w := ⟨rfl, rfl, rfl, Nat.le_refl _, fun _ _ _ _ => rfl⟩
theorem Kq.trans {b g : Nat} {x y z : World} (h : Kq b g x y) (k : Kq b g y z) : Kq b g x z :=
  ⟨k.os.trans h.os, k.tape.trans h.tape, k.output.trans h.output, Nat.le_trans h.size k.size, fun i hi h1 h2 => (k.block i (Nat.lt_of_lt_of_le hi h.size) h1 h2).trans (h.block i hi h1 h2)⟩
theorem Kq.of0 {b g : Nat} {x y : World} (h : x.grownBy y none) : Kq b g x y := ⟨h.os, h.tape, h.output, h.size, fun i hi _ _ => h.block i hi (by simp)⟩
theorem Kq.ofb {b g : Nat} {x y : World} (h : x.grownBy y (some b)) : Kq b g x y := ⟨h.os, h.tape, h.output, h.size, fun i hi h1 _ => h.block i hi (ne_some h1)⟩
theorem Kq.ofg {b g : Nat} {x y : World} (h : x.grownBy y (some g)) : Kq b g x y := ⟨h.os, h.tape, h.output, h.size, fun i hi _ h2 => h.block i hi (ne_some h2)⟩
/-- A step that writes a block that is new. -/
theorem Kq.step {b g r : Nat} {x y z : World} (h : Kq b g x y) (k : y.grownBy z (some r)) (hr : x.heap.size ≤ r) : Kq b g x z :=
  ⟨k.os.trans h.os, k.tape.trans h.tape, k.output.trans h.output, Nat.le_trans h.size k.size, fun i hi h1 h2 => (k.block i (Nat.lt_of_lt_of_le hi h.size) (ne_some (by omega))).trans (h.block i hi h1 h2)⟩
theorem Kq.blk {b g k : Nat} {x y : World} {t : TypeId} {vs : Array Value} (h : Kq b g x y) (hb : Blk x k t vs) (h1 : k ≠ b) (h2 : k ≠ g) : Blk y k t vs := (h.block k hb.lt h1 h2).trans hb
theorem Kq.gb {b g : Nat} {w x y : World} (h0 : w.grownBy x none) (h : Kq b g x y) (h1 : w.heap.size ≤ b) (h2 : w.heap.size ≤ g) : w.grownBy y none :=
  ⟨h.os.trans h0.os, h.tape.trans h0.tape, h.output.trans h0.output, Nat.le_trans h0.size h.size, fun i hi _ => (h.block i (Nat.lt_of_lt_of_le hi h0.size) (by omega) (by omega)).trans (h0.block i hi (by simp))⟩
/-- A reading: what is left of its text. -/
def RG (w : World) (b g : Nat) (s : ByteArray) (l : List UInt8) : Prop :=
  ∃ (p : Nat) (bg : Int), Rd w b s p ∧ p ≤ s.size ∧ s.data.toList.drop p = l ∧ Blk w g 77 #[.pointer (some ⟨b, 0, none⟩), .string s, .int .i64 bg] ∧ b ≠ g
theorem RG.c0 {w : World} {b g : Nat} {s : ByteArray} {l : List UInt8} (h : RG w b g s l) : w.cell? ⟨g, 0, none⟩ = some (.pointer (some ⟨b, 0, none⟩)) := by
  obtain ⟨p, bg, _, _, _, hb, _⟩ := h; exact hb.cell 0 rfl
theorem RG.c1 {w : World} {b g : Nat} {s : ByteArray} {l : List UInt8} (h : RG w b g s l) : w.cell? ⟨g, 1, none⟩ = some (.string s) := by
  obtain ⟨p, bg, _, _, _, hb, _⟩ := h; exact hb.cell 1 rfl
theorem RG.ltb {w : World} {b g : Nat} {s : ByteArray} {l : List UInt8} (h : RG w b g s l) : b < w.heap.size := by
  obtain ⟨p, bg, hr, _⟩ := h; exact hr.lt
theorem RG.ltg {w : World} {b g : Nat} {s : ByteArray} {l : List UInt8} (h : RG w b g s l) : g < w.heap.size := by
  obtain ⟨p, bg, _, _, _, hb, _⟩ := h; exact hb.lt
theorem RG.keep0 {w w' : World} {b g : Nat} {s : ByteArray} {l : List UInt8} (h : RG w b g s l) (k : w.grownBy w' none) : RG w' b g s l := by
  obtain ⟨p, bg, h1, h2, h3, h4, h5⟩ := h
  exact ⟨p, bg, h1.keep0 k, h2, h3, h4.keep0 k, h5⟩
theorem RG.keep {w w' : World} {b g r : Nat} {s : ByteArray} {l : List UInt8} (h : RG w b g s l) (k : w.grownBy w' (some r)) (hb : r ≠ b) (hg : r ≠ g) : RG w' b g s l := by
  obtain ⟨p, bg, h1, h2, h3, h4, h5⟩ := h
  exact ⟨p, bg, h1.keep k (ne_some hb.symm), h2, h3, h4.keep k (ne_some hg.symm), h5⟩
theorem RG.len {w : World} {b g : Nat} {s : ByteArray} {l : List UInt8} (h : RG w b g s l) : l.length ≤ s.size := by
  obtain ⟨p, bg, _, _, h3, _⟩ := h
  rw [← h3, List.length_drop, size_list]; omega
/-- What a reading is given up with. -/
def Wrong (v : Value) : Prop := (∃ a : Nat, v = .iface 78 (.pointer (some ⟨a, 0, none⟩))) ∨ ∃ c : Int, v = .iface 40 (.int .i64 c)
def pan (v : Value) (r : Bool) : PanicEntry := { v := v, recovered := r }
/-- It is given up. -/
def GaveUp (b g : Nat) (s : ByteArray) (w : World) (e : Ending) (w' : World) : Prop := ∃ v l, e = .panicked [pan v false] ∧ Wrong v ∧ RG w' b g s l ∧ Kq b g w w'
theorem taken_u8 (x : Int) (w : World) : Calls Tryz.prog 44 #[.int .u8 x, .nilIface] w fun e w' => e = .returned (.int .u8 x) ∧ w = w' := by
  go_enter Tryz.func44, Tryz.ntmps44
  go_wp2
  go_ret
  exact ⟨rfl, rfl⟩
theorem taken_u8_no (x : Int) (a : Nat) (w : World) : Calls Tryz.prog 44 #[.int .u8 x, .iface 78 (.pointer (some ⟨a, 0, none⟩))] w fun e w' => e = .panicked [pan (.iface 78 (.pointer (some ⟨a, 0, none⟩))) false] ∧ w = w' := by
  go_enter Tryz.func44, Tryz.ntmps44
  go_wp2
  exact ⟨rfl, rfl, rfl⟩
theorem taken_u16 (x : Int) (w : World) : Calls Tryz.prog 58 #[.int .u16 x, .nilIface] w fun e w' => e = .returned (.int .u16 x) ∧ w = w' := by
  go_enter Tryz.func58, Tryz.ntmps58
  go_wp2
  go_ret
  exact ⟨rfl, rfl⟩
theorem taken_u16_no (x : Int) (a : Nat) (w : World) : Calls Tryz.prog 58 #[.int .u16 x, .iface 78 (.pointer (some ⟨a, 0, none⟩))] w fun e w' => e = .panicked [pan (.iface 78 (.pointer (some ⟨a, 0, none⟩))) false] ∧ w = w' := by
  go_enter Tryz.func58, Tryz.ntmps58
  go_wp2
  exact ⟨rfl, rfl, rfl⟩
theorem taken_s (x : ByteArray) (w : World) : Calls Tryz.prog 61 #[.string x, .nilIface] w fun e w' => e = .returned (.string x) ∧ w = w' := by
  go_enter Tryz.func61, Tryz.ntmps61
  go_wp2
  go_ret
  exact ⟨rfl, rfl⟩
theorem taken_s_no (x : ByteArray) (a : Nat) (w : World) : Calls Tryz.prog 61 #[.string x, .iface 78 (.pointer (some ⟨a, 0, none⟩))] w fun e w' => e = .panicked [pan (.iface 78 (.pointer (some ⟨a, 0, none⟩))) false] ∧ w = w' := by
  go_enter Tryz.func61, Tryz.ntmps61
  go_wp2
  exact ⟨rfl, rfl, rfl⟩
theorem must_ok (c : Int) (w : World) : Calls Tryz.prog 43 #[.bool true, .int .i64 c] w fun e w' => e = .returned (.tuple #[]) ∧ w = w' := by
  go_enter Tryz.func43, Tryz.ntmps43
  go_wp2
  first | go_end0 | skip
  exact ⟨rfl, rfl⟩
theorem must_no (c : Int) (w : World) : Calls Tryz.prog 43 #[.bool false, .int .i64 c] w fun e w' => e = .panicked [pan (.iface 40 (.int .i64 c)) false] ∧ w = w' := by
  go_enter Tryz.func43, Tryz.ntmps43
  go_wp2
  exact ⟨rfl, rfl, rfl⟩
def BeginGot (b g : Nat) (s : ByteArray) (l : List UInt8) (w : World) (e : Ending) (w' : World) : Prop := e = .returned (.tuple #[]) ∧ RG w' b g s l ∧ Kq b g w w'
set_option maxRecDepth 100000 in
set_option maxHeartbeats 1000000 in
theorem begin_any (b g : Nat) (s : ByteArray) (l : List UInt8) (w : World) (h : RG w b g s l) : Calls Tryz.prog 57 #[.pointer (some ⟨g, 0, none⟩)] w (BeginGot b g s l w) := by
  obtain ⟨p, bg, hr, hp, hd, hb, hne⟩ := h
  have c0 : w.cell? ⟨g, 0, none⟩ = some (.pointer (some ⟨b, 0, none⟩)) := hb.cell 0 rfl
  have c2 : w.cell? ⟨g, 2, none⟩ = some (.int .i64 bg) := hb.cell 2 rfl
  have f2 := hb.free 2
  have HR := Lib.hid (place_any b s p w hr)
  have HB := Lib.hid (show RG (w.setCell ⟨g, 2, none⟩ (.int .i64 p)) b g s l from ⟨p, p, hr.keep (gb_set w g 2 none _) (ne_some hne), hp, hd, hb.set 2 _, hne⟩)
  clear hr hp hd hb hne
  go_enter Tryz.func57, Tryz.ntmps57
  go_wp2_with (go_at_call 67; (with_reducible refine HR.out.mono ?_); rintro e w1 ⟨rfl, rfl⟩)
  first | go_end0 | skip
  exact ⟨rfl, HB.out, Kq.ofg (gb_set _ _ _ _ _)⟩
/-- What the reader's Text, numbers and End answer, by what is left. -/
theorem extract_list (s : ByteArray) (a n : Nat) : (s.extract a (a + n)).data.toList = (s.data.toList.drop a).take n := by
  rw [ByteArray.data_extract, Array.toList_extract, List.extract_eq_take_drop, Nat.add_sub_cancel_left]
theorem ba_of {a : ByteArray} {l : List UInt8} (h : a.data.toList = l) : a = ⟨l.toArray⟩ := (ba_eq h).symm
theorem valAt_one {s : ByteArray} {p : Nat} {c : UInt8} {r : List UInt8} (h : s.data.toList.drop p = c :: r) : valAt s p 1 = c.toNat := by
  unfold valAt; rw [h]; simp [nat8]
theorem valAt_two {s : ByteArray} {p : Nat} {c d : UInt8} {r : List UInt8} (h : s.data.toList.drop p = c :: d :: r) : valAt s p 2 = c.toNat * 256 + d.toNat := by
  unfold valAt; rw [h]; simp [nat8]
theorem drop_len {s : ByteArray} {p : Nat} {l : List UInt8} (h : s.data.toList.drop p = l) (hp : p ≤ s.size) : p + l.length = s.size := by
  rw [← h, List.length_drop, size_list]; omega
theorem drop_cons {s : ByteArray} {p : Nat} {c : UInt8} {r : List UInt8} (h : s.data.toList.drop p = c :: r) : s.data.toList.drop (p + 1) = r := by
  rw [← List.drop_drop, h]; rfl
def ReadGot (v : Value) (b g : Nat) (s : ByteArray) (l : List UInt8) (w : World) (e : Ending) (w' : World) : Prop := e = .returned (.tuple #[v, .nilIface]) ∧ RG w' b g s l ∧ Kq b g w w'
def ReadNot (v : Value) (b g : Nat) (s : ByteArray) (l : List UInt8) (w : World) (e : Ending) (w' : World) : Prop := ∃ a : Nat, e = .returned (.tuple #[v, .iface 78 (.pointer (some ⟨a, 0, none⟩))]) ∧ RG w' b g s l ∧ Kq b g w w'
theorem text_got (b g : Nat) (s k : ByteArray) (l r : List UInt8) (w : World) (h : RG w b g s l) (hs : s.size ≤ 9223372036854775807) (ht : textR l = some (k, r)) : Calls Tryz.prog 62 #[.pointer (some ⟨b, 0, none⟩), .int .i64 255] w (ReadGot (.string k) b g s r w) := by
  obtain ⟨p, bg, hr, hp, hd, hb, hne⟩ := h
  have hl := drop_len hd hp
  cases l with
  | nil => cases ht
  | cons c t =>
    change (if c.toNat ≤ t.length then some ((⟨(t.take c.toNat).toArray⟩ : ByteArray), t.drop c.toNat) else none) = some (k, r) at ht
    split at ht
    · rename_i hc
      injection ht with ht
      injection ht with h1 h2
      have hv := valAt_one hd
      have hcl := c.toNat_lt
      rw [List.length_cons] at hl
      refine (text_ok b s p 255 w hr (by omega) hs (by rw [hv]; omega) (by rw [hv]; omega)).mono ?_
      rintro e w' ⟨rfl, h3, h4⟩
      rw [hv] at h3 ⊢
      have e1 : s.extract (p + 1) (p + 1 + c.toNat) = k := by
        rw [ba_of (extract_list s (p + 1) c.toNat), drop_cons hd, h1]
      exact ⟨by rw [e1], ⟨_, bg, h3, by omega, by rw [← List.drop_drop, drop_cons hd, h2], hb.keep h4 (ne_some hne.symm), hne⟩, Kq.ofb h4⟩
    · cases ht
theorem text_not (b g : Nat) (s : ByteArray) (l : List UInt8) (w : World) (h : RG w b g s l) (hs : s.size ≤ 9223372036854775807) (ht : textR l = none) : Calls Tryz.prog 62 #[.pointer (some ⟨b, 0, none⟩), .int .i64 255] w (ReadNot (.string ⟨#[]⟩) b g s l w) := by
  have h' := h
  obtain ⟨p, bg, hr, hp, hd, hb, hne⟩ := h
  have hl := drop_len hd hp
  cases l with
  | nil =>
    refine (text_end b s p 255 w hr (by omega) hp hs (by simp at hl; omega)).mono ?_
    rintro e w' ⟨a, rfl, _, _, g1⟩
    exact ⟨a, rfl, h'.keep0 g1, Kq.of0 g1⟩
  | cons c t =>
    change (if c.toNat ≤ t.length then some ((⟨(t.take c.toNat).toArray⟩ : ByteArray), t.drop c.toNat) else none) = none at ht
    split at ht
    · cases ht
    · rename_i hc
      have hv := valAt_one hd
      have hcl := c.toNat_lt
      rw [List.length_cons] at hl
      refine (text_short b s p 255 w hr (by omega) (by omega) hs (by rw [hv]; omega) (by rw [hv]; omega)).mono ?_
      rintro e w' ⟨a, rfl, _, _, g1⟩
      exact ⟨a, rfl, h'.keep0 g1, Kq.of0 g1⟩
theorem num16_got (b g : Nat) (s : ByteArray) (n : Nat) (l r : List UInt8) (w : World) (h : RG w b g s l) (hs : s.size ≤ 9223372036854775807) (ht : numR l = some (n, r)) : Calls Tryz.prog 59 #[.pointer (some ⟨b, 0, none⟩)] w (ReadGot (.int .u16 n) b g s r w) := by
  obtain ⟨p, bg, hr, hp, hd, hb, hne⟩ := h
  have hl := drop_len hd hp
  match l, ht with
  | c :: d :: t, ht =>
    injection ht with ht
    injection ht with h1 h2
    subst h1 h2
    rw [List.length_cons, List.length_cons] at hl
    refine (u16_ok b s p w hr (by omega) hs).mono ?_
    rintro e w' ⟨rfl, h3, h4⟩
    rw [valAt_two hd]
    exact ⟨rfl, ⟨_, bg, h3, by omega, by rw [show p + 2 = (p + 1) + 1 from rfl, drop_cons (drop_cons hd)], hb.keep h4 (ne_some hne.symm), hne⟩, Kq.ofb h4⟩
  | [_], ht => cases ht
  | [], ht => cases ht
theorem num16_not (b g : Nat) (s : ByteArray) (l : List UInt8) (w : World) (h : RG w b g s l) (hs : s.size ≤ 9223372036854775807) (ht : numR l = none) : Calls Tryz.prog 59 #[.pointer (some ⟨b, 0, none⟩)] w (ReadNot (.int .u16 0) b g s l w) := by
  have h' := h
  obtain ⟨p, bg, hr, hp, hd, hb, hne⟩ := h
  have hl := drop_len hd hp
  have hn : l.length < 2 := by
    match l, ht with
    | _ :: _ :: _, ht => cases ht
    | [_], _ => simp
    | [], _ => simp
  refine (u16_short b s p w hr hp hs (by omega)).mono ?_
  rintro e w' ⟨rfl, _, g1⟩
  exact ⟨_, rfl, h'.keep0 g1, Kq.of0 g1⟩
theorem num8_got (b g : Nat) (s : ByteArray) (c : UInt8) (r : List UInt8) (w : World) (h : RG w b g s (c :: r)) (hs : s.size ≤ 9223372036854775807) : Calls Tryz.prog 45 #[.pointer (some ⟨b, 0, none⟩)] w (ReadGot (.int .u8 c.toNat) b g s r w) := by
  obtain ⟨p, bg, hr, hp, hd, hb, hne⟩ := h
  have hl := drop_len hd hp
  rw [List.length_cons] at hl
  refine (u8_ok b s p w hr (by omega) hs).mono ?_
  rintro e w' ⟨rfl, h3, h4⟩
  rw [valAt_one hd]
  exact ⟨rfl, ⟨_, bg, h3, by omega, drop_cons hd, hb.keep h4 (ne_some hne.symm), hne⟩, Kq.ofb h4⟩
theorem num8_not (b g : Nat) (s : ByteArray) (w : World) (h : RG w b g s []) (hs : s.size ≤ 9223372036854775807) : Calls Tryz.prog 45 #[.pointer (some ⟨b, 0, none⟩)] w (ReadNot (.int .u8 0) b g s [] w) := by
  have h' := h
  obtain ⟨p, bg, hr, hp, hd, hb, hne⟩ := h
  have hl := drop_len hd hp
  rw [List.length_nil] at hl
  refine (u8_short b s p w hr hp hs (by omega)).mono ?_
  rintro e w' ⟨rfl, _, g1⟩
  exact ⟨_, rfl, h'.keep0 g1, Kq.of0 g1⟩
theorem end_got (b g : Nat) (s : ByteArray) (w : World) (h : RG w b g s []) (hs : s.size ≤ 9223372036854775807) : Calls Tryz.prog 48 #[.pointer (some ⟨b, 0, none⟩)] w fun e w' => e = .returned .nilIface ∧ RG w' b g s [] ∧ w.grownBy w' none := by
  have h' := h
  obtain ⟨p, bg, hr, hp, hd, hb, hne⟩ := h
  have hl := drop_len hd hp
  refine (end_all b s p w hr (by simpa using hl) hs).mono ?_
  rintro e w' ⟨rfl, g1⟩
  exact ⟨rfl, h'.keep0 g1, g1⟩
theorem end_not (b g : Nat) (s : ByteArray) (l : List UInt8) (w : World) (h : RG w b g s l) (hl0 : l.length ≠ 0) (hs : s.size ≤ 9223372036854775807) : Calls Tryz.prog 48 #[.pointer (some ⟨b, 0, none⟩)] w fun e w' => ∃ a : Nat, e = .returned (.iface 78 (.pointer (some ⟨a, 0, none⟩))) ∧ RG w' b g s l ∧ w.grownBy w' none := by
  have h' := h
  obtain ⟨p, bg, hr, hp, hd, hb, hne⟩ := h
  have hl := drop_len hd hp
  refine (end_left b s p w hr (by omega) hs).mono ?_
  rintro e w' ⟨rfl, _, g1⟩
  exact ⟨_, rfl, h'.keep0 g1, g1⟩
end Go.Proofs.YthhimhjegodklaaGreat.N11

