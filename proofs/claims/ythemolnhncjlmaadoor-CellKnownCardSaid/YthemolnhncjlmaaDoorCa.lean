/-
  A sector's array, the closures that ask something of it, the right sum, bytes.Equal, over this seat's translation; conditions: the array's block is there, and the box that holds its address.
-/
import Derived.Test.YthemolnhncjlmaaDoorCm
import Derived.Test.YthemolnhncjlmaaDoorRef
import Derived.Test.YthemolnhncjlmaaDoorSw
import Derived.Laws.CopyRow
import Derived.Lib.SlBuf
namespace Go.Proofs.YthemolnhncjlmaaDoor
open Go.RowKit

theorem add_at (p o j : Nat) : (⟨p, o, none⟩ : Addr).add j = ⟨p, o + j, none⟩ := by unfold Addr.add; split <;> simp_all
/-- A sector's block. -/
def Sec (W : World) (b : Nat) (l : List UInt8) : Prop := Blk W b 47 (bcells l).toArray ∧ l.length = 256
theorem Sec.keep0 {W W' : World} {b : Nat} {l : List UInt8} (h : Sec W b l) (g : W.grownBy W' none) : Sec W' b l := ⟨Blk.keep0 h.1 g, h.2⟩
theorem Sec.lt {W : World} {b : Nat} {l : List UInt8} (h : Sec W b l) : b < W.heap.size := Blk.lt h.1
theorem bcells_at {l : List UInt8} {j : Nat} (h : j < l.length) : (bcells l)[j]? = some (.int .u8 ((l.getD j 0).toNat : Nat)) := by simp [bcells, List.getD_eq_getElem?_getD, h]
theorem Sec.byte {W : World} {b : Nat} {l : List UInt8} (h : Sec W b l) (k : Nat) (hk : k < 256) : W.cell? ⟨b, k, none⟩ = some (.int .u8 ((l.getD k 0).toNat : Nat)) := Blk.cell h.1 k (by rw [List.getElem?_toArray]; exact bcells_at (by rw [h.2]; exact hk))
theorem Sec.free {W : World} {b : Nat} {l : List UInt8} (h : Sec W b l) (k : Nat) : W.frozen? ⟨b, k, none⟩ = false := Blk.free h.1 k
theorem Sec.bs {W : World} {b : Nat} {l : List UInt8} (h : Sec W b l) (i n cap : Nat) (hn : i + n ≤ 256) (hc : n ≤ cap) : Bs W (.slice (some ⟨b, i, none⟩) n cap) ((l.drop i).take n) := by
  have hl : ((l.drop i).take n).length = n := by have := h.2; simp; omega
  refine ⟨some ⟨b, i, none⟩, cap, by rw [hl], by omega, (fun e => by cases e), ?_⟩
  intro a e j u hj
  cases e
  have hj2 : j < n := by have := (List.getElem?_eq_some_iff.1 hj).1; rw [bcells_length, hl] at this; exact this
  rw [add_at, h.byte (i + j) (by omega), ← hj, bcells_at (by rw [hl]; exact hj2)]
  simp [List.getD_eq_getElem?_getD, hj2]
theorem Sec.str {W : World} {b : Nat} {l : List UInt8} (h : Sec W b l) (i n cap : Nat) (hn : i + n ≤ 256) (hc : n ≤ cap) : (convert 27 9 (.slice (some ⟨b, i, none⟩) n cap)).run Tryd.prog W = .ok (.string ⟨((l.drop i).take n).toArray⟩) W := conv_bs _ _ _ (h.bs i n cap hn hc)
/-- The array that is new. -/
theorem zero_cells : Tryd.zeroCells47 = (bcells (rep 256)).toArray := by
  have : Tryd.zeroCells47 = (List.replicate 256 (Value.int .u8 0)).toArray := by kernel_rfl
  rw [this]; unfold bcells rep; rw [List.map_replicate]; rfl
theorem Sec.mk (w : World) : Sec (w.alloc (.cells Tryd.zeroCells47 47)) w.heap.size (rep 256) := ⟨by rw [zero_cells]; exact Blk.mk _ _ _, rep_length _⟩

theorem equal_any (v u : Value) (l r : List UInt8) (w : World) (hv : Bs w v l) (hu : Bs w u r) :
    Calls Tryd.prog 36 #[v, u] w fun e w' => e = .returned (.bool (l == r)) ∧ w' = w := by
  have h1 := conv_bs _ _ _ hv
  have h2 := conv_bs _ _ _ hu
  go_enter Tryd.func36, Tryd.ntmps36
  go_wp2
  go_ret
  exact ⟨rfl, rfl⟩

/-- What is returned is a slice that reads as these bytes; nothing that was there has turned. -/
def BsGot (w : World) (l : List UInt8) (e : Ending) (w' : World) : Prop :=
  ∃ v', e = .returned v' ∧ Bs w' v' l ∧ w.grownBy w' none
set_option maxHeartbeats 1000000 in
theorem right_any (b : Nat) (l : List UInt8) (w : World) (h : Sec w b l) :
    Calls Tryd.prog 17 #[.pointer (some ⟨b, 0, none⟩)] w (BsGot w (sumF (l.take 252))) := by
  have hs := h.str 0 252 256 (by omega) (by omega)
  rw [List.drop_zero] at hs
  have hlen : (⟨(l.take 252).toArray⟩ : ByteArray).size ≤ 140737488351232 := by show (l.take 252).toArray.size ≤ _; simp; omega
  obtain ⟨t, ht⟩ : ∃ t : ByteArray, t = ⟨(l.take 252).toArray⟩ := ⟨_, rfl⟩
  rw [← ht] at hs hlen
  have HL := Lib.hid hlen
  have HE := Lib.hid (show t.data.toList = l.take 252 by rw [ht])
  clear ht hlen h
  go_enter Tryd.func17, Tryd.ntmps17
  go_wp2_with (first
    | (go_at_call 15; (with_reducible refine (of_any t _ HL.out).mono ?_); rintro e w1 ⟨rfl, hb⟩)
    | (go_at_call 31; (with_reducible refine (p32_any _ [] _ _ (Bs.nil _) (moreN_lt _ _) (by simp)).mono ?_); rintro e w2 ⟨v2, rfl, o2, g2⟩))
  go_ret
  rw [HE.out] at o2
  have g1 := gb_of_below hb
  exact ⟨v2, rfl, Bs.of_owns o2, gb_trans g1 g2⟩

theorem bcells_one (l : List UInt8) : ∀ v ∈ bcells l, v.oneCell' = true := by
  intro v hv
  simp only [bcells, List.mem_map] at hv
  obtain ⟨b, _, rfl⟩ := hv
  rfl
theorem gb_setRow (w : World) (g : Nat) (cs : Array Value) : w.grownBy (w.setRow g cs) (some g) := by
  refine ⟨rfl, rfl, rfl, by simp, fun k _ hk => ?_⟩
  exact setRow_other w g k cs (fun e => hk (by rw [e]))
/-- Bytes laid at a place. -/
def putAt (l : List UInt8) (i : Nat) (r : List UInt8) : List UInt8 := l.take i ++ r ++ l.drop (i + r.length)
theorem putAt_length (l : List UInt8) (i : Nat) (r : List UInt8) (h : i + r.length ≤ l.length) : (putAt l i r).length = l.length := by simp [putAt]; omega
theorem Sec.row {W : World} {b : Nat} {l : List UInt8} (h : Sec W b l) (i : Nat) (r : List UInt8) (hi : i + r.length ≤ 256) : Sec (W.setRow b (bcells (putAt l i r)).toArray) b (putAt l i r) :=
  ⟨setRow_heap W b _ _ _ _ h.1, by rw [putAt_length _ _ _ (by rw [h.2]; exact hi)]; exact h.2⟩
theorem bcells_put (l : List UInt8) (i : Nat) (r : List UInt8) : ((bcells l).toArray.toList.take i ++ bcells r ++ (bcells l).toArray.toList.drop (i + (bcells r).length)).toArray = (bcells (putAt l i r)).toArray := by
  rw [bcells_length]
  simp [putAt, bcells, List.map_take, List.map_drop]
theorem copy_bs {W : World} {b : Nat} {l r : List UInt8} {v : Value} (h : Sec W b l) (hr : Bs W v r) (i dLen dCap : Nat) (hi : i + r.length ≤ 256) (hd : r.length ≤ dLen) (h0 : r ≠ []) (ty : TypeId) :
    (Builtin.copy_ #[27, 27] ty #[.slice (some ⟨b, i, none⟩) dLen dCap, v]).run Tryd.prog W = .ok (goInt r.length) (W.setRow b (bcells (putAt l i r)).toArray) := by
  obtain ⟨ao, cap, rfl, h2, h3, h4⟩ := hr
  cases ao with
  | none => exact absurd (List.eq_nil_of_length_eq_zero (h3 rfl).1) h0
  | some a =>
    have := run_copy_row (P := Tryd.prog) W 27 27 ty 5 b i dLen dCap a r.length cap (bcells l).toArray 47 (bcells r) Tryd.underlying27 (by kernel_rfl) h.1 (by rw [bcells_length]; exact (Nat.min_eq_left hd).symm) (h4 a rfl) (by rw [bcells_length, List.size_toArray, bcells_length, h.2]; exact hi) (bcells_one r)
    rw [bcells_put, bcells_length] at this
    exact this
/-- A text's first bytes, with noughts behind. -/
def secF (s : List UInt8) : List UInt8 := s.take 256 ++ rep (256 - s.length)
theorem secF_length (s : List UInt8) : (secF s).length = 256 := by simp [secF, rep_length]; omega
theorem secF_whole (s : List UInt8) (h : s.length = 256) : secF s = s := by
  unfold secF
  rw [List.take_of_length_le (by omega), h]
  exact List.append_nil _
theorem copy_text {W : World} {b : Nat} (h : Sec W b (rep 256)) (s : ByteArray) (ty : TypeId) :
    (Builtin.copy_ #[27, 9] ty #[.slice (some ⟨b, 0, none⟩) 256 256, .string s]).run Tryd.prog W = .ok (goInt (Nat.min s.size 256)) (W.setRow b (bcells (secF s.data.toList)).toArray) := by
  obtain ⟨cs, hcs⟩ : ∃ cs, cs = bcells (s.data.toList.take 256) := ⟨_, rfl⟩
  have hl : cs.length = Nat.min s.size 256 := by
    rw [hcs, bcells_length, List.length_take, Nat.min_comm]; rfl
  have hle : cs.length ≤ 256 := by rw [hl]; exact Nat.min_le_right _ _
  have hst := run_storeCells_at Tryd.prog b 0 47 cs 0 (bcells (rep 256)).toArray W h.1 (by rw [List.size_toArray, bcells_length, rep_length]; omega) (by rw [hcs]; exact bcells_one _)
  have hput : ((bcells (rep 256)).toArray.toList.take (0 + 0) ++ cs ++ (bcells (rep 256)).toArray.toList.drop (0 + 0 + cs.length)).toArray = (bcells (secF s.data.toList)).toArray := by
    congr 1
    have hd : (bcells (rep 256)).toArray.toList.drop (0 + 0 + cs.length) = bcells (rep (256 - s.data.toList.length)) := by
      rw [Nat.add_zero, Nat.zero_add]
      show (bcells (rep 256)).drop cs.length = _
      unfold bcells
      rw [← List.map_drop, rep_drop, hl]
      congr 2
      show 256 - Nat.min s.size 256 = 256 - s.data.toList.length
      have : s.size = s.data.toList.length := rfl
      rw [this]; change 256 - min s.data.toList.length 256 = _; omega
    rw [hd, hcs]
    simp [secF, bcells]
  rw [hput] at hst
  have htk : List.take (Nat.min s.size 256) (List.map (fun b : UInt8 => Value.int IntKind.u8 (b.toNat : Int)) s.data.toList) = cs := by
    rw [hcs]
    unfold bcells
    rw [List.map_take]
    have : s.size = (List.map (fun b : UInt8 => Value.int IntKind.u8 (b.toNat : Int)) s.data.toList).length := by rw [List.length_map]; rfl
    rw [this]
    change List.take (min _ 256) _ = _
    rcases Nat.le_total (List.map (fun b : UInt8 => Value.int IntKind.u8 (b.toNat : Int)) s.data.toList).length 256 with h1 | h1
    · rw [Nat.min_eq_left h1, List.take_of_length_le (Nat.le_refl _), List.take_of_length_le h1]
    · rw [Nat.min_eq_right h1]
  have hq : (Tryd.prog.info? 5).map (·.size) = some 1 := by kernel_rfl
  cases hq2 : Tryd.prog.info? 5 with
  | none => simp [hq2] at hq
  | some i =>
    simp [Builtin.copy_, run_underlying Tryd.underlying27, Builtin.lenOf, Builtin.firstCells, sizeOf, typeInfo, hq2]
    rw [htk, hst]
    simp [Result.andThen]

theorem ret_two (c d : Int) {c' d' : Int} (h1 : c = c') (h2 : d = d') : Ending.returned (.tuple #[.int .i64 c, .int .i64 d]) = .returned (.tuple #[.int .i64 c', .int .i64 d']) := by rw [h1, h2]
/-- What a question answers: a code and a place. -/
def Says (w : World) (c : Nat × Nat) (e : Ending) (w' : World) : Prop := e = .returned (.tuple #[.int .i64 (c.1 : Nat), .int .i64 (c.2 : Nat)]) ∧ w.grownBy w' none
theorem whole_any (x : Nat) (s : ByteArray) (w : World) (hx : w.cell? ⟨x, 0, none⟩ = some (.string s)) :
    Calls Tryd.prog 34 #[.pointer (some ⟨x, 0, none⟩)] w (Says w (q0 s.size)) := by
  by_cases h : s.size = 256
  all_goals
    go_enter Tryd.func34, Tryd.ntmps34
    go_wp2
    go_ret2
    exact ⟨by unfold q0; first | (rw [if_pos h]; rfl) | (rw [if_neg h]; rfl), gb_refl _ _⟩
theorem kind_any (x b : Nat) (l : List UInt8) (w : World) (hx : w.cell? ⟨x, 0, none⟩ = some (.pointer (some ⟨b, 0, none⟩))) (h : Sec w b l) :
    Calls Tryd.prog 37 #[.pointer (some ⟨x, 0, none⟩)] w (Says w (q2 l)) := by
  have HQ := Lib.hid (show q2 l = if kindF l = 0 then (6, 0) else (0, 0) from rfl)
  generalize q2 l = q at HQ ⊢
  have h0 := h.byte 0 (by omega)
  rw [show (l.getD 0 0).toNat = kindF l from rfl] at h0
  clear h
  generalize kindF l = k at h0 HQ
  by_cases hk : k = 0
  all_goals
    go_enter Tryd.func37, Tryd.ntmps37
    go_wp2
    go_ret2
    exact ⟨by rw [HQ.out]; first | (rw [if_pos hk]; rfl) | (rw [if_neg hk]; rfl), gb_refl _ _⟩
theorem room_any (x b : Nat) (l : List UInt8) (w : World) (hx : w.cell? ⟨x, 0, none⟩ = some (.pointer (some ⟨b, 0, none⟩))) (h : Sec w b l) :
    Calls Tryd.prog 38 #[.pointer (some ⟨x, 0, none⟩)] w (Says w (q3 l)) := by
  have HQ := Lib.hid (show q3 l = if 240 < longF l then (4, 1) else (0, 0) from rfl)
  generalize q3 l = q at HQ ⊢
  have h0 := h.byte 1 (by omega)
  rw [show (l.getD 1 0).toNat = longF l from rfl] at h0
  clear h
  generalize longF l = k at h0 HQ
  by_cases hk : 240 < k
  all_goals
    go_enter Tryd.func38, Tryd.ntmps38
    go_wp2
    go_ret2
    exact ⟨by rw [HQ.out]; first | (rw [if_pos hk]; rfl) | (rw [if_neg hk]; rfl), gb_refl _ _⟩
theorem end_any (b : Nat) (l : List UInt8) (w : World) (h : Sec w b l) :
    Calls Tryd.prog 27 #[.pointer (some ⟨b, 0, none⟩)] w fun e w' => e = .returned (.int .i64 ((2 + longF l : Nat) : Nat)) ∧ w = w' := by
  have h0 := h.byte 1 (by omega)
  have hb := longF_lt l
  rw [show (l.getD 1 0).toNat = longF l from rfl] at h0
  clear h
  generalize longF l = k at h0 hb
  go_enter Tryd.func27, Tryd.ntmps27
  go_wp2
  go_ret
  exact ⟨by congr 2, rfl⟩

set_option maxHeartbeats 1000000 in
theorem summed_any (x b : Nat) (l : List UInt8) (w : World) (hx : w.cell? ⟨x, 0, none⟩ = some (.pointer (some ⟨b, 0, none⟩))) (h : Sec w b l) :
    Calls Tryd.prog 35 #[.pointer (some ⟨x, 0, none⟩)] w (Says w (q1 l)) := by
  have HQ1 := Lib.hid (show q1 l = if l.drop 252 = sumF (l.take 252) then (0, 0) else (8, 252) from rfl)
  generalize q1 l = q at HQ1 ⊢
  have HS := Lib.hid h
  have hbs := fun W (g : w.grownBy W none) => (h.keep0 g).bs 252 4 4 (by omega) (by omega)
  have e4 : (l.drop 252).take 4 = l.drop 252 := List.take_of_length_le (by have := h.2; simp; omega)
  rw [e4] at hbs
  have HB := Lib.hid hbs
  clear hbs h e4
  by_cases hq : l.drop 252 = sumF (l.take 252)
  all_goals
    have hbe : (l.drop 252 == sumF (l.take 252)) = decide (l.drop 252 = sumF (l.take 252)) := by first | (simp [hq]; done) | simp
    first | rw [decide_eq_true hq] at hbe | rw [decide_eq_false hq] at hbe
    have HQ := Lib.hid hq
    clear hq
    go_enter Tryd.func35, Tryd.ntmps35
    go_wp2
    go_region_with (first
      | (go_at_call 17; (with_reducible refine (right_any b l _ (HS.out.keep0 (gb_drew _ _))).mono ?_); rintro e w1 ⟨v1, rfl, b1, g1⟩; have hx1 := (gb_trans (gb_drew w none) g1).cell hx (by simp))
      | (go_at_call 36; (with_reducible refine (equal_any _ _ _ _ _ (HB.out _ (gb_trans (gb_drew _ _) g1)) b1).mono ?_); rintro e w2 ⟨rfl, rfl⟩))
    all_goals
      go_wp2
      go_ret2
      refine ⟨?_, gb_trans (gb_drew _ _) g1⟩
      rw [HQ1.out]
      first
        | (simp only [if_pos HQ.out]; rfl)
        | (simp only [if_neg HQ.out]; rfl)
end Go.Proofs.YthemolnhncjlmaaDoor
