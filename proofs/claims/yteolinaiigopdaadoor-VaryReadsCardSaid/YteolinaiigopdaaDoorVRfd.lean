/-
  What the document's field answers, over this seat's translation; conditions: the place lies in the text, the text has at most a million bytes.
-/
import Derived.Test.YteolinaiigopdaaDoorVRef2
import Derived.RegionTactic
namespace Go.Proofs.YteolinaiigopdaaDoor
open Go.RowKit

/-- The call answers an error's number. -/
def RFdErr (w : World) (c : Nat) (e : Ending) (w' : World) : Prop :=
  ∃ nx : Int, e = .returned (.tuple #[.agg #[.int .i64 0, .bool false, .int .u64 0, .string ⟨#[]⟩], .int .i64 nx, .int .i64 c]) ∧ w.grownBy w' none
/-- A field was read; the next one begins there. -/
def RFdGot (w : World) (f : Fd) (nx : Nat) (e : Ending) (w' : World) : Prop :=
  e = .returned (.tuple #[.agg #[.int .i64 f.tag, .bool f.text, .int .u64 f.n, .string f.s], .int .i64 nx, .int .i64 0]) ∧ w.grownBy w' none
theorem byte_at (s : ByteArray) (p : Nat) (hp : p < s.size) : s.data.toList[p]'(by simpa using hp) = s[p] := rfl

set_option maxRecDepth 100000 in
set_option maxHeartbeats 1000000 in
theorem rfield_lo (s : ByteArray) (p : Nat) (last : Int) (w : World) (hp : p < s.size) (h2 : s[p].toNat < 2) :
    Calls Tryd.prog 29 #[.string s, .int .i64 p, .int .i64 last] w (RFdErr w 2) := by
  have h2' : (s[p].toNat : Int) < 2 := by omega
  go_enter Tryd.func29, Tryd.ntmps29
  go_wp2
  refine bodyPost_ret (v := .tuple #[.agg #[.int .i64 0, .bool false, .int .u64 0, .string ⟨#[]⟩], .int .i64 p, .int .i64 2]) (by simp [results, Tryd.results29, go_sem]) rfl ⟨_, rfl, gb_alloc _ _ _⟩
set_option maxRecDepth 100000 in
set_option maxHeartbeats 1000000 in
theorem rfield_hi (s : ByteArray) (p : Nat) (last : Int) (w : World) (hp : p < s.size) (h2 : 127 < s[p].toNat) :
    Calls Tryd.prog 29 #[.string s, .int .i64 p, .int .i64 last] w (RFdErr w 2) := by
  have h2' : 127 < (s[p].toNat : Int) := by omega
  go_enter Tryd.func29, Tryd.ntmps29
  go_wp2
  refine bodyPost_ret (v := .tuple #[.agg #[.int .i64 0, .bool false, .int .u64 0, .string ⟨#[]⟩], .int .i64 p, .int .i64 2]) (by simp [results, Tryd.results29, go_sem]) rfl ⟨_, rfl, gb_alloc _ _ _⟩
theorem valAt_next (s : ByteArray) (p k : Nat) (h : p + k < s.size) : valAt s p (k + 1) = valAt s p k * 256 + s[p + k].toNat := by
  have h2 : k < (s.data.toList.drop p).length := by simp; omega
  have h3 : (s.data.toList.drop p)[k] = s[p + k] := by simp; rfl
  unfold valAt
  rw [List.take_succ_eq_append_getElem h2, nat8_snoc, h3]
theorem valAt_small (s : ByteArray) (p k : Nat) (h : k < 8) : (valAt s p k : Int) < 72057594037927936 := by
  have h1 := valAt_lt s p k
  have h2 : (256 : Nat) ^ k ≤ 256 ^ 7 := Nat.pow_le_pow_right (by omega) (by omega)
  have h3 : (256 : Nat) ^ 7 = 72057594037927936 := by decide
  omega
/-- What the document's field answers behind the number's bytes. -/
def rfdRes (s : ByteArray) (q k t : Nat) (x : Bool) : Except Nat (Fd × Nat) :=
  if 0 < k ∧ (s.data.toList.drop q).head? = some 0 then .error 5 else
  if x = false then .ok (⟨t, false, valAt s q k, ⟨#[]⟩⟩, q + k) else
  if 2000 < valAt s q k then .error 4 else
  if s.size < q + k + valAt s q k then .error 3 else .ok (⟨t, true, 0, s.extract (q + k) (q + k + valAt s q k)⟩, q + k + valAt s q k)
def RFdRes (w : World) (s : ByteArray) (q k t : Nat) (x : Bool) (e : Ending) (w' : World) : Prop :=
  match rfdRes s q k t x with | .error c => RFdErr w c e w' | .ok (f, nx) => RFdGot w f nx e w'
theorem mod_bool (n : Nat) : ((n : Int) % 2 == 1) = (n % 2 == 1) := by
  cases h : (n % 2 == 1) with
  | true => rw [beq_iff_eq] at h ⊢; omega
  | false => rw [beq_eq_false_iff_ne] at h ⊢; omega
/-- Behind the field's first byte: the answer's block, and the field's. -/
def Fd2 (w : World) (t : Int) (x : Bool) (wx : World) : Prop :=
  Blk wx w.heap.size 29 #[.int .i64 0, .bool false, .int .u64 0, .string ⟨#[]⟩] ∧ Blk wx (w.heap.size + 1) 29 #[.int .i64 t, .bool x, .int .u64 0, .string ⟨#[]⟩] ∧ w.grownBy wx none
theorem fd2_of (w : World) (a : Int) (b : Bool) (t : Nat) (x : Bool) (ha : a = t) (hb : b = x) : Fd2 w t x ((w.alloc (.cells #[.int .i64 0, .bool false, .int .u64 0, .string ⟨#[]⟩] 29)).alloc (.cells #[.int .i64 a, .bool b, .int .u64 0, .string ⟨#[]⟩] 29)).drew := by
  subst ha; subst hb
  obtain ⟨w0, hw0, g0, k0, k1⟩ := fd_start w (t : Int) b
  rw [← hw0]
  exact ⟨k0.keep0 (gb_drew _ _), k1.keep0 (gb_drew _ _), gb_trans g0 (gb_drew _ _)⟩

set_option maxRecDepth 100000 in
set_option maxHeartbeats 2000000 in
theorem rfield_order (s : ByteArray) (p : Nat) (last : Int) (t : Nat) (x : Bool) (w : World) (hp : p < s.size) (h1 : 2 ≤ s[p].toNat) (h2 : s[p].toNat ≤ 127) (ht : s[p].toNat / 2 = t) (hx : (s[p].toNat % 2 == 1) = x) (h3 : (t : Int) ≤ last) :
    Calls Tryd.prog 29 #[.string s, .int .i64 p, .int .i64 last] w (RFdErr w 7) := by
  have h1' : 2 ≤ (s[p].toNat : Int) := by omega
  have h2' : (s[p].toNat : Int) ≤ 127 := by omega
  have HTX := Lib.hid (And.intro ht hx)
  clear ht hx
  go_enter Tryd.func29, Tryd.ntmps29
  go_upto_region 3 with (fail)
  go_cut [9] (fun s9 wx => s9 = .pointer (some ⟨w.heap.size + 1, 0, none⟩) ∧ Fd2 w t x wx)
  case first =>
    go_region
    go_wp2_with fail
    go_meet
    exact ⟨rfl, fd2_of w _ _ t x (by have := HTX.out.1; omega) (by rw [← HTX.out.2]; exact mod_bool _)⟩
  case rest =>
    obtain ⟨rfl, k0, k1, gx⟩ := hcut
    clear HTX
    have hz0 := Blk.lt k1
    have c0 := Blk.cell k0 0 rfl
    have c1 := Blk.cell k0 1 rfl
    have c2 := Blk.cell k0 2 rfl
    have c3 := Blk.cell k0 3 rfl
    have f0 := Blk.free k0 0
    have f1 := Blk.free k0 1
    have f2 := Blk.free k0 2
    have f3 := Blk.free k0 3
    have d0 := Blk.cell k1 0 rfl
    go_wp2
    refine bodyPost_ret (v := .tuple #[.agg #[.int .i64 0, .bool false, .int .u64 0, .string ⟨#[]⟩], .int .i64 p, .int .i64 7]) (by simp [results, Tryd.results29, go_sem, c0, c1, c2, c3]) rfl ⟨_, rfl, ?_⟩
    exact gb_step (gb_step (gb_step (gb_step gx (gb_set _ _ _ _ _) (Nat.le_refl _)) (gb_set _ _ _ _ _) (Nat.le_refl _)) (gb_set _ _ _ _ _) (Nat.le_refl _)) (gb_set _ _ _ _ _) (Nat.le_refl _)

set_option maxRecDepth 100000 in
set_option maxHeartbeats 2000000 in
theorem rfield_end (s : ByteArray) (p : Nat) (last : Int) (t : Nat) (x : Bool) (w : World) (hp : p < s.size) (hs : s.size ≤ 1000000) (h1 : 2 ≤ s[p].toNat) (h2 : s[p].toNat ≤ 127) (ht : s[p].toNat / 2 = t) (hx : (s[p].toNat % 2 == 1) = x) (h3 : last < (t : Int)) (h4 : p + 1 = s.size) :
    Calls Tryd.prog 29 #[.string s, .int .i64 p, .int .i64 last] w (RFdErr w 3) := by
  have h1' : 2 ≤ (s[p].toNat : Int) := by omega
  have h2' : (s[p].toNat : Int) ≤ 127 := by omega
  have HTX := Lib.hid (And.intro ht hx)
  clear ht hx
  go_enter Tryd.func29, Tryd.ntmps29
  go_upto_region 3 with (fail)
  go_cut [9] (fun s9 wx => s9 = .pointer (some ⟨w.heap.size + 1, 0, none⟩) ∧ Fd2 w t x wx)
  case first =>
    go_region
    go_wp2_with fail
    go_meet
    exact ⟨rfl, fd2_of w _ _ t x (by have := HTX.out.1; omega) (by rw [← HTX.out.2]; exact mod_bool _)⟩
  case rest =>
    obtain ⟨rfl, k0, k1, gx⟩ := hcut
    clear HTX
    have hz0 := Blk.lt k1
    have c0 := Blk.cell k0 0 rfl
    have c1 := Blk.cell k0 1 rfl
    have c2 := Blk.cell k0 2 rfl
    have c3 := Blk.cell k0 3 rfl
    have f0 := Blk.free k0 0
    have f1 := Blk.free k0 1
    have f2 := Blk.free k0 2
    have f3 := Blk.free k0 3
    have d0 := Blk.cell k1 0 rfl
    have h4' : (((p : Int) + 1) == (s.size : Int)) = true := by rw [beq_iff_eq]; omega
    go_wp2
    refine bodyPost_ret (v := .tuple #[.agg #[.int .i64 0, .bool false, .int .u64 0, .string ⟨#[]⟩], .int .i64 (p + 1), .int .i64 3]) (by simp [results, Tryd.results29, go_sem, c0, c1, c2, c3]) rfl ⟨_, rfl, ?_⟩
    exact gb_step (gb_step (gb_step (gb_step gx (gb_set _ _ _ _ _) (Nat.le_refl _)) (gb_set _ _ _ _ _) (Nat.le_refl _)) (gb_set _ _ _ _ _) (Nat.le_refl _)) (gb_set _ _ _ _ _) (Nat.le_refl _)

set_option maxRecDepth 100000 in
set_option maxHeartbeats 2000000 in
theorem rfield_form (s : ByteArray) (p : Nat) (last : Int) (t : Nat) (x : Bool) (w : World) (hp : p < s.size) (hs : s.size ≤ 1000000) (h1 : 2 ≤ s[p].toNat) (h2 : s[p].toNat ≤ 127) (ht : s[p].toNat / 2 = t) (hx : (s[p].toNat % 2 == 1) = x) (h3 : last < (t : Int)) (h4 : p + 1 < s.size) (h5 : 8 < s[p + 1].toNat) :
    Calls Tryd.prog 29 #[.string s, .int .i64 p, .int .i64 last] w (RFdErr w 5) := by
  have h1' : 2 ≤ (s[p].toNat : Int) := by omega
  have h2' : (s[p].toNat : Int) ≤ 127 := by omega
  have HTX := Lib.hid (And.intro ht hx)
  clear ht hx
  go_enter Tryd.func29, Tryd.ntmps29
  go_upto_region 3 with (fail)
  go_cut [9] (fun s9 wx => s9 = .pointer (some ⟨w.heap.size + 1, 0, none⟩) ∧ Fd2 w t x wx)
  case first =>
    go_region
    go_wp2_with fail
    go_meet
    exact ⟨rfl, fd2_of w _ _ t x (by have := HTX.out.1; omega) (by rw [← HTX.out.2]; exact mod_bool _)⟩
  case rest =>
    obtain ⟨rfl, k0, k1, gx⟩ := hcut
    clear HTX
    have hz0 := Blk.lt k1
    have c0 := Blk.cell k0 0 rfl
    have c1 := Blk.cell k0 1 rfl
    have c2 := Blk.cell k0 2 rfl
    have c3 := Blk.cell k0 3 rfl
    have f0 := Blk.free k0 0
    have f1 := Blk.free k0 1
    have f2 := Blk.free k0 2
    have f3 := Blk.free k0 3
    have d0 := Blk.cell k1 0 rfl
    have h4' : (((p : Int) + 1) == (s.size : Int)) = false := by rw [beq_eq_false_iff_ne]; omega
    have h5' : 8 < (s[p + 1].toNat : Int) := by omega
    have h6' : (s[p + 1].toNat : Int) < 256 := by have := s[p + 1].toNat_lt; omega
    go_wp2
    refine bodyPost_ret (v := .tuple #[.agg #[.int .i64 0, .bool false, .int .u64 0, .string ⟨#[]⟩], .int .i64 (p + 1 + 1), .int .i64 5]) (by simp [results, Tryd.results29, go_sem, c0, c1, c2, c3]) rfl ⟨_, rfl, ?_⟩
    exact gb_step (gb_step (gb_step (gb_step gx (gb_set _ _ _ _ _) (Nat.le_refl _)) (gb_set _ _ _ _ _) (Nat.le_refl _)) (gb_set _ _ _ _ _) (Nat.le_refl _)) (gb_set _ _ _ _ _) (Nat.le_refl _)

set_option maxRecDepth 100000 in
set_option maxHeartbeats 2000000 in
theorem rfield_short (s : ByteArray) (p : Nat) (last : Int) (t : Nat) (x : Bool) (w : World) (hp : p < s.size) (hs : s.size ≤ 1000000) (h1 : 2 ≤ s[p].toNat) (h2 : s[p].toNat ≤ 127) (ht : s[p].toNat / 2 = t) (hx : (s[p].toNat % 2 == 1) = x) (h3 : last < (t : Int)) (h4 : p + 1 < s.size) (h5 : s[p + 1].toNat ≤ 8) (h6 : s.size < p + 2 + s[p + 1].toNat) :
    Calls Tryd.prog 29 #[.string s, .int .i64 p, .int .i64 last] w (RFdErr w 3) := by
  have h1' : 2 ≤ (s[p].toNat : Int) := by omega
  have h2' : (s[p].toNat : Int) ≤ 127 := by omega
  have HTX := Lib.hid (And.intro ht hx)
  clear ht hx
  go_enter Tryd.func29, Tryd.ntmps29
  go_upto_region 3 with (fail)
  go_cut [9] (fun s9 wx => s9 = .pointer (some ⟨w.heap.size + 1, 0, none⟩) ∧ Fd2 w t x wx)
  case first =>
    go_region
    go_wp2_with fail
    go_meet
    exact ⟨rfl, fd2_of w _ _ t x (by have := HTX.out.1; omega) (by rw [← HTX.out.2]; exact mod_bool _)⟩
  case rest =>
    obtain ⟨rfl, k0, k1, gx⟩ := hcut
    clear HTX
    have hz0 := Blk.lt k1
    have c0 := Blk.cell k0 0 rfl
    have c1 := Blk.cell k0 1 rfl
    have c2 := Blk.cell k0 2 rfl
    have c3 := Blk.cell k0 3 rfl
    have f0 := Blk.free k0 0
    have f1 := Blk.free k0 1
    have f2 := Blk.free k0 2
    have f3 := Blk.free k0 3
    have d0 := Blk.cell k1 0 rfl
    have h4' : (((p : Int) + 1) == (s.size : Int)) = false := by rw [beq_eq_false_iff_ne]; omega
    have h5' : (s[p + 1].toNat : Int) ≤ 8 := by omega
    have h6' : (s.size : Int) - ((p : Int) + 1 + 1) < (s[p + 1].toNat : Int) := by omega
    go_wp2
    refine bodyPost_ret (v := .tuple #[.agg #[.int .i64 0, .bool false, .int .u64 0, .string ⟨#[]⟩], .int .i64 (p + 1 + 1), .int .i64 3]) (by simp [results, Tryd.results29, go_sem, c0, c1, c2, c3]) rfl ⟨_, rfl, ?_⟩
    exact gb_step (gb_step (gb_step (gb_step gx (gb_set _ _ _ _ _) (Nat.le_refl _)) (gb_set _ _ _ _ _) (Nat.le_refl _)) (gb_set _ _ _ _ _) (Nat.le_refl _)) (gb_set _ _ _ _ _) (Nat.le_refl _)
end Go.Proofs.YteolinaiigopdaaDoor
