/-
  Texts of one layer, one behind the other, each with its own sentence; conditions: those that each law states.
-/
import Derived.Laws.CopyRow
import Derived.Lib.SlBuf
import Derived.Test.YtliiooldlooagaaGreatDoorZC2
import Derived.Test.YtliiooldlooagaaGreatDoorZC4
import Derived.Test.YtliiooldlooagaaGreatDoorZROOT8
set_option linter.unusedSimpArgs false
set_option linter.unusedVariables false

/-
  A sector's array, the closures that ask something of it, the right sum, bytes.Equal, over this seat's translation; conditions: the array's block is there, and the box that holds its address.
-/
namespace Go.Proofs.YtliiooldlooagaaGreatDoor.C7
open Go.RowKit

theorem add_at (p o j : Nat) : (⟨p, o, none⟩ : Addr).add j = ⟨p, o + j, none⟩ := by unfold Addr.add; split <;> simp_all
/-- A sector's block. -/
def Sec (W : World) (b : Nat) (l : List UInt8) : Prop := Blk W b 179 (bcells l).toArray ∧ l.length = 256
theorem Sec.keep0 {W W' : World} {b : Nat} {l : List UInt8} (h : Sec W b l) (g : W.grownBy W' none) : Sec W' b l := ⟨Blk.keep0 h.1 g, h.2⟩
theorem Sec.lt {W : World} {b : Nat} {l : List UInt8} (h : Sec W b l) : b < W.heap.size := Blk.lt h.1
theorem bcells_at {l : List UInt8} {j : Nat} (h : j < l.length) : (bcells l)[j]? = some (.int .u8 ((l.getD j 0).toNat : Nat)) := by simp [bcells, List.getD_eq_getElem?_getD, h]
theorem Sec.byte {W : World} {b : Nat} {l : List UInt8} (h : Sec W b l) (k : Nat) (hk : k < 256) : W.cell? ⟨b, k, none⟩ = some (.int .u8 ((l.getD k 0).toNat : Nat)) := Blk.cell h.1 k (by rw [List.getElem?_toArray]; exact bcells_at (by rw [h.2]; exact hk))
theorem Sec.free {W : World} {b : Nat} {l : List UInt8} (h : Sec W b l) (k : Nat) : W.frozen? ⟨b, k, none⟩ = false := Blk.free h.1 k
theorem Sec.bs {W : World} {b : Nat} {l : List UInt8} (h : Sec W b l) (i n cap : Nat) (hn : i + n ≤ 256) (hc : n ≤ cap) : Bs W (.slice (some ⟨b, i, none⟩) n cap) ((l.drop i).take n) := by
  have hl : ((l.drop i).take n).length = n := by have := h.2; simp; omega
  refine ⟨some ⟨b, i, none⟩, cap, by rw [hl], by omega, (fun e => by cases e), ?_⟩
  intro a e j u hj
  cases e
  have hj2 : j < n := by have := (List.getElem?_eq_some_iff.1 hj).1; rw [bcells_length, hl] at this; exact this
  rw [add_at, h.byte (i + j) (by omega), ← hj, bcells_at (by rw [hl]; exact hj2)]
  simp [List.getD_eq_getElem?_getD, hj2]
theorem Sec.str {W : World} {b : Nat} {l : List UInt8} (h : Sec W b l) (i n cap : Nat) (hn : i + n ≤ 256) (hc : n ≤ cap) : (convert 59 9 (.slice (some ⟨b, i, none⟩) n cap)).run Tryz.prog W = .ok (.string ⟨((l.drop i).take n).toArray⟩) W := conv_bs _ _ _ (h.bs i n cap hn hc)
/-- The array that is new. -/
theorem zero_cells : Tryz.zeroCells179 = (bcells (rep 256)).toArray := by
  have : Tryz.zeroCells179 = (List.replicate 256 (Value.int .u8 0)).toArray := by kernel_rfl
  rw [this]; unfold bcells rep; rw [List.map_replicate]; rfl
theorem Sec.mk (w : World) : Sec (w.alloc (.cells Tryz.zeroCells179 179)) w.heap.size (rep 256) := ⟨by rw [zero_cells]; exact Blk.mk _ _ _, rep_length _⟩

theorem equal_any (v u : Value) (l r : List UInt8) (w : World) (hv : Bs w v l) (hu : Bs w u r) :
    Calls Tryz.prog 139 #[v, u] w fun e w' => e = .returned (.bool (l == r)) ∧ w' = w := by
  have h1 := conv_bs _ _ _ hv
  have h2 := conv_bs _ _ _ hu
  go_enter Tryz.func139, Tryz.ntmps139
  go_wp2
  go_ret
  exact ⟨rfl, rfl⟩

/-- What is returned is a slice that reads as these bytes; nothing that was there has turned. -/
def BsGot (w : World) (l : List UInt8) (e : Ending) (w' : World) : Prop :=
  ∃ v', e = .returned v' ∧ Bs w' v' l ∧ w.grownBy w' none
set_option maxHeartbeats 1000000 in
theorem right_any (b : Nat) (l : List UInt8) (w : World) (h : Sec w b l) :
    Calls Tryz.prog 106 #[.pointer (some ⟨b, 0, none⟩)] w (BsGot w (sumF (l.take 252))) := by
  have hs := h.str 0 252 256 (by omega) (by omega)
  rw [List.drop_zero] at hs
  have hlen : (⟨(l.take 252).toArray⟩ : ByteArray).size ≤ 140737488351232 := by show (l.take 252).toArray.size ≤ _; simp; omega
  obtain ⟨t, ht⟩ : ∃ t : ByteArray, t = ⟨(l.take 252).toArray⟩ := ⟨_, rfl⟩
  rw [← ht] at hs hlen
  have HL := Lib.hid hlen
  have HE := Lib.hid (show t.data.toList = l.take 252 by rw [ht])
  clear ht hlen h
  go_enter Tryz.func106, Tryz.ntmps106
  go_wp2_with (first
    | (go_at_call 131; (with_reducible refine (of_any t _ HL.out).mono ?_); rintro e w1 ⟨rfl, hb⟩)
    | (go_at_call 130; (with_reducible refine (p32_any _ [] _ _ (Bs.nil _) (moreN_lt _ _) (by simp)).mono ?_); rintro e w2 ⟨v2, rfl, o2, g2⟩))
  go_ret
  rw [HE.out] at o2
  have g1 := gb_of_below hb
  exact ⟨v2, rfl, Bs.of_owns o2, gb_trans g1 g2⟩

theorem bcells_one (l : List UInt8) : ∀ v ∈ bcells l, v.oneCell' = true := by
  intro v hv
  simp only [bcells, List.mem_map] at hv
  obtain ⟨b, _, rfl⟩ := hv
  rfl
theorem gb_setRow (w : World) (g : Nat) (cs : Array Value) : w.grownBy (w.setRow g cs) (some g) := by
  refine ⟨rfl, rfl, rfl, by simp, fun k _ hk => ?_⟩
  exact setRow_other w g k cs (fun e => hk (by rw [e]))
/-- Bytes laid at a place. -/
def putAt (l : List UInt8) (i : Nat) (r : List UInt8) : List UInt8 := l.take i ++ r ++ l.drop (i + r.length)
theorem putAt_length (l : List UInt8) (i : Nat) (r : List UInt8) (h : i + r.length ≤ l.length) : (putAt l i r).length = l.length := by simp [putAt]; omega
theorem Sec.row {W : World} {b : Nat} {l : List UInt8} (h : Sec W b l) (i : Nat) (r : List UInt8) (hi : i + r.length ≤ 256) : Sec (W.setRow b (bcells (putAt l i r)).toArray) b (putAt l i r) :=
  ⟨setRow_heap W b _ _ _ _ h.1, by rw [putAt_length _ _ _ (by rw [h.2]; exact hi)]; exact h.2⟩
theorem bcells_put (l : List UInt8) (i : Nat) (r : List UInt8) : ((bcells l).toArray.toList.take i ++ bcells r ++ (bcells l).toArray.toList.drop (i + (bcells r).length)).toArray = (bcells (putAt l i r)).toArray := by
  rw [bcells_length]
  simp [putAt, bcells, List.map_take, List.map_drop]
theorem copy_bs {W : World} {b : Nat} {l r : List UInt8} {v : Value} (h : Sec W b l) (hr : Bs W v r) (i dLen dCap : Nat) (hi : i + r.length ≤ 256) (hd : r.length ≤ dLen) (h0 : r ≠ []) (ty : TypeId) :
    (Builtin.copy_ #[59, 59] ty #[.slice (some ⟨b, i, none⟩) dLen dCap, v]).run Tryz.prog W = .ok (goInt r.length) (W.setRow b (bcells (putAt l i r)).toArray) := by
  obtain ⟨ao, cap, rfl, h2, h3, h4⟩ := hr
  cases ao with
  | none => exact absurd (List.eq_nil_of_length_eq_zero (h3 rfl).1) h0
  | some a =>
    have := run_copy_row (P := Tryz.prog) W 59 59 ty 5 b i dLen dCap a r.length cap (bcells l).toArray 179 (bcells r) Tryz.underlying59 (by kernel_rfl) h.1 (by rw [bcells_length]; exact (Nat.min_eq_left hd).symm) (h4 a rfl) (by rw [bcells_length, List.size_toArray, bcells_length, h.2]; exact hi) (bcells_one r)
    rw [bcells_put, bcells_length] at this
    exact this
/-- A text's first bytes, with noughts behind. -/
def secF (s : List UInt8) : List UInt8 := s.take 256 ++ rep (256 - s.length)
theorem secF_length (s : List UInt8) : (secF s).length = 256 := by simp [secF, rep_length]; omega
theorem secF_whole (s : List UInt8) (h : s.length = 256) : secF s = s := by
  unfold secF
  rw [List.take_of_length_le (by omega), h]
  exact List.append_nil _
theorem copy_text {W : World} {b : Nat} (h : Sec W b (rep 256)) (s : ByteArray) (ty : TypeId) :
    (Builtin.copy_ #[59, 9] ty #[.slice (some ⟨b, 0, none⟩) 256 256, .string s]).run Tryz.prog W = .ok (goInt (Nat.min s.size 256)) (W.setRow b (bcells (secF s.data.toList)).toArray) := by
  obtain ⟨cs, hcs⟩ : ∃ cs, cs = bcells (s.data.toList.take 256) := ⟨_, rfl⟩
  have hl : cs.length = Nat.min s.size 256 := by
    rw [hcs, bcells_length, List.length_take, Nat.min_comm]; rfl
  have hle : cs.length ≤ 256 := by rw [hl]; exact Nat.min_le_right _ _
  have hst := run_storeCells_at Tryz.prog b 0 179 cs 0 (bcells (rep 256)).toArray W h.1 (by rw [List.size_toArray, bcells_length, rep_length]; omega) (by rw [hcs]; exact bcells_one _)
  have hput : ((bcells (rep 256)).toArray.toList.take (0 + 0) ++ cs ++ (bcells (rep 256)).toArray.toList.drop (0 + 0 + cs.length)).toArray = (bcells (secF s.data.toList)).toArray := by
    congr 1
    have hd : (bcells (rep 256)).toArray.toList.drop (0 + 0 + cs.length) = bcells (rep (256 - s.data.toList.length)) := by
      rw [Nat.add_zero, Nat.zero_add]
      show (bcells (rep 256)).drop cs.length = _
      unfold bcells
      rw [← List.map_drop, rep_drop, hl]
      congr 2
      show 256 - Nat.min s.size 256 = 256 - s.data.toList.length
      have : s.size = s.data.toList.length := rfl
      rw [this]; change 256 - min s.data.toList.length 256 = _; omega
    rw [hd, hcs]
    simp [secF, bcells]
  rw [hput] at hst
  have htk : List.take (Nat.min s.size 256) (List.map (fun b : UInt8 => Value.int IntKind.u8 (b.toNat : Int)) s.data.toList) = cs := by
    rw [hcs]
    unfold bcells
    rw [List.map_take]
    have : s.size = (List.map (fun b : UInt8 => Value.int IntKind.u8 (b.toNat : Int)) s.data.toList).length := by rw [List.length_map]; rfl
    rw [this]
    change List.take (min _ 256) _ = _
    rcases Nat.le_total (List.map (fun b : UInt8 => Value.int IntKind.u8 (b.toNat : Int)) s.data.toList).length 256 with h1 | h1
    · rw [Nat.min_eq_left h1, List.take_of_length_le (Nat.le_refl _), List.take_of_length_le h1]
    · rw [Nat.min_eq_right h1]
  have hq : (Tryz.prog.info? 5).map (·.size) = some 1 := by kernel_rfl
  cases hq2 : Tryz.prog.info? 5 with
  | none => simp [hq2] at hq
  | some i =>
    simp [Builtin.copy_, run_underlying Tryz.underlying59, Builtin.lenOf, Builtin.firstCells, sizeOf, typeInfo, hq2]
    rw [htk, hst]
    simp [Result.andThen]

theorem ret_two (c d : Int) {c' d' : Int} (h1 : c = c') (h2 : d = d') : Ending.returned (.tuple #[.int .i64 c, .int .i64 d]) = .returned (.tuple #[.int .i64 c', .int .i64 d']) := by rw [h1, h2]
/-- What a question answers: a code and a place. -/
def Says (w : World) (c : Nat × Nat) (e : Ending) (w' : World) : Prop := e = .returned (.tuple #[.int .i64 (c.1 : Nat), .int .i64 (c.2 : Nat)]) ∧ w.grownBy w' none
theorem whole_any (x : Nat) (s : ByteArray) (w : World) (hx : w.cell? ⟨x, 0, none⟩ = some (.string s)) :
    Calls Tryz.prog 137 #[.pointer (some ⟨x, 0, none⟩)] w (Says w (q0 s.size)) := by
  by_cases h : s.size = 256
  all_goals
    go_enter Tryz.func137, Tryz.ntmps137
    go_wp2
    go_ret2
    exact ⟨by unfold q0; first | (rw [if_pos h]; rfl) | (rw [if_neg h]; rfl), gb_refl _ _⟩
theorem kind_any (x b : Nat) (l : List UInt8) (w : World) (hx : w.cell? ⟨x, 0, none⟩ = some (.pointer (some ⟨b, 0, none⟩))) (h : Sec w b l) :
    Calls Tryz.prog 140 #[.pointer (some ⟨x, 0, none⟩)] w (Says w (q2 l)) := by
  have HQ := Lib.hid (show q2 l = if kindF l = 0 then (6, 0) else (0, 0) from rfl)
  generalize q2 l = q at HQ ⊢
  have h0 := h.byte 0 (by omega)
  rw [show (l.getD 0 0).toNat = kindF l from rfl] at h0
  clear h
  generalize kindF l = k at h0 HQ
  by_cases hk : k = 0
  all_goals
    go_enter Tryz.func140, Tryz.ntmps140
    go_wp2
    go_ret2
    exact ⟨by rw [HQ.out]; first | (rw [if_pos hk]; rfl) | (rw [if_neg hk]; rfl), gb_refl _ _⟩
theorem room_any (x b : Nat) (l : List UInt8) (w : World) (hx : w.cell? ⟨x, 0, none⟩ = some (.pointer (some ⟨b, 0, none⟩))) (h : Sec w b l) :
    Calls Tryz.prog 141 #[.pointer (some ⟨x, 0, none⟩)] w (Says w (q3 l)) := by
  have HQ := Lib.hid (show q3 l = if 240 < longF l then (4, 1) else (0, 0) from rfl)
  generalize q3 l = q at HQ ⊢
  have h0 := h.byte 1 (by omega)
  rw [show (l.getD 1 0).toNat = longF l from rfl] at h0
  clear h
  generalize longF l = k at h0 HQ
  by_cases hk : 240 < k
  all_goals
    go_enter Tryz.func141, Tryz.ntmps141
    go_wp2
    go_ret2
    exact ⟨by rw [HQ.out]; first | (rw [if_pos hk]; rfl) | (rw [if_neg hk]; rfl), gb_refl _ _⟩
theorem end_any (b : Nat) (l : List UInt8) (w : World) (h : Sec w b l) :
    Calls Tryz.prog 127 #[.pointer (some ⟨b, 0, none⟩)] w fun e w' => e = .returned (.int .i64 ((2 + longF l : Nat) : Nat)) ∧ w = w' := by
  have h0 := h.byte 1 (by omega)
  have hb := longF_lt l
  rw [show (l.getD 1 0).toNat = longF l from rfl] at h0
  clear h
  generalize longF l = k at h0 hb
  go_enter Tryz.func127, Tryz.ntmps127
  go_wp2
  go_ret
  exact ⟨by congr 2, rfl⟩

set_option maxHeartbeats 1000000 in
theorem summed_any (x b : Nat) (l : List UInt8) (w : World) (hx : w.cell? ⟨x, 0, none⟩ = some (.pointer (some ⟨b, 0, none⟩))) (h : Sec w b l) :
    Calls Tryz.prog 138 #[.pointer (some ⟨x, 0, none⟩)] w (Says w (q1 l)) := by
  have HQ1 := Lib.hid (show q1 l = if l.drop 252 = sumF (l.take 252) then (0, 0) else (8, 252) from rfl)
  generalize q1 l = q at HQ1 ⊢
  have HS := Lib.hid h
  have hbs := fun W (g : w.grownBy W none) => (h.keep0 g).bs 252 4 4 (by omega) (by omega)
  have e4 : (l.drop 252).take 4 = l.drop 252 := List.take_of_length_le (by have := h.2; simp; omega)
  rw [e4] at hbs
  have HB := Lib.hid hbs
  clear hbs h e4
  by_cases hq : l.drop 252 = sumF (l.take 252)
  all_goals
    have hbe : (l.drop 252 == sumF (l.take 252)) = decide (l.drop 252 = sumF (l.take 252)) := by first | (simp [hq]; done) | simp
    first | rw [decide_eq_true hq] at hbe | rw [decide_eq_false hq] at hbe
    have HQ := Lib.hid hq
    clear hq
    go_enter Tryz.func138, Tryz.ntmps138
    go_wp2
    go_region_with (first
      | (go_at_call 106; (with_reducible refine (right_any b l _ (HS.out.keep0 (gb_drew _ _))).mono ?_); rintro e w1 ⟨v1, rfl, b1, g1⟩; have hx1 := (gb_trans (gb_drew w none) g1).cell hx (by simp))
      | (go_at_call 139; (with_reducible refine (equal_any _ _ _ _ _ (HB.out _ (gb_trans (gb_drew _ _) g1)) b1).mono ?_); rintro e w2 ⟨rfl, rfl⟩))
    all_goals
      go_wp2
      go_ret2
      refine ⟨?_, gb_trans (gb_drew _ _) g1⟩
      rw [HQ1.out]
      first
        | (simp only [if_pos HQ.out]; rfl)
        | (simp only [if_neg HQ.out]; rfl)
end Go.Proofs.YtliiooldlooagaaGreatDoor.C7

/-
  What Open answers of any text, over this seat's translation; no conditions beside the model's own.
-/
namespace Go.Proofs.YtliiooldlooagaaGreatDoor.C7
open Go.RowKit

set_option maxRecDepth 100000 in
set_option maxHeartbeats 1000000 in
theorem blank_any (x b : Nat) (l : List UInt8) (w : World) (hx : w.cell? ⟨x, 0, none⟩ = some (.pointer (some ⟨b, 0, none⟩))) (h : Sec w b l) :
    Calls Tryz.prog 142 #[.pointer (some ⟨x, 0, none⟩)] w (Says w (q4 l)) := by
  have HQ := Lib.hid (show q4 l = if firstAt l (2 + longF l) < 252 then (5, firstAt l (2 + longF l)) else (0, 0) from rfl)
  generalize q4 l = q at HQ ⊢
  have HS := Lib.hid h
  have hlb := longF_lt l
  have HE := Lib.hid (fun W (g : w.grownBy W none) => end_any b l W (h.keep0 g))
  clear h
  obtain ⟨p, hp⟩ : ∃ p, 2 + longF l = p := ⟨_, rfl⟩
  have hp2 : p ≤ 257 := by omega
  rw [hp] at HE HQ
  clear hp hlb
  go_enter Tryz.func142, Tryz.ntmps142
  go_wp2_with (go_at_call 127; (with_reducible refine (HE.out _ (gb_refl _ _)).mono ?_); rintro e w' ⟨rfl, rfl⟩)
  go_loop [3] (fun v => ∃ k : Nat, p ≤ k ∧ (p ≤ 252 → k ≤ 252) ∧ v = .int .i64 k ∧ k ≤ 257 ∧ Hid (p ≤ 252 → firstAt l p = firstAt l k)) (fun v => 300 - (intOf v).toNat)
  case atStart => exact ⟨p, by omega, fun h => h, rfl, hp2, Lib.hid (fun _ => rfl)⟩
  case round =>
    obtain ⟨k, hk, hk1, rfl, hk2, hf⟩ := hrel
    by_cases hlt : k < 252
    · have hb := HS.out.byte k (by omega)
      by_cases h0 : l.getD k 0 = 0
      · have HN := Lib.hid (firstAt_on l k hlt HS.out.2 h0)
        rw [h0] at hb
        simp only [UInt8.toNat_zero] at hb
        go_wp2
        go_round
        case rel => exact ⟨k + 1, by omega, fun _ => by omega, by go_num, by omega, Lib.hid (fun h => (hf.out h).trans HN.out)⟩
        case measure => simp [intOf]; omega
      · have HN := Lib.hid (firstAt_hit l k hlt HS.out.2 h0)
        have hz : ((l.getD k 0).toNat : Int) ≠ 0 := by
          intro e
          exact h0 (UInt8.toNat_inj.1 (by simpa using Int.ofNat.inj e))
        generalize ((l.getD k 0).toNat : Int) = c at hb hz
        have hz2 : (c == 0) = false := by simp [hz]
        have hz3 : (c != 0) = true := by simp [hz]
        go_wp2
        go_ret2
        have e1 : firstAt l p = k := (hf.out (by omega)).trans HN.out
        exact ⟨by rw [HQ.out, e1, if_pos hlt]; rfl, gb_refl _ _⟩
    · have HL := Lib.hid (firstAt_end l HS.out.2)
      go_wp2
      go_ret2
      refine ⟨?_, gb_refl _ _⟩
      have e1 : ¬ firstAt l p < 252 := by
        rcases Nat.lt_or_ge 252 p with h1 | h1
        · have : p ≤ firstAt l p := by unfold firstAt; omega
          omega
        · have hk0 : k = 252 := by have := hk1 h1; omega
          have := hf.out h1
          rw [hk0, HL.out] at this
          omega
      rw [HQ.out, if_neg e1]; rfl

/-- A fault, new, or none. -/
def Asked (w : World) (c : Nat × Nat) (e : Ending) (w' : World) : Prop :=
  (c.1 = 0 → e = .returned .nilIface ∧ w.grownBy w' none) ∧
  (c.1 ≠ 0 → ∃ a : Nat, e = .returned (.iface 209 (.pointer (some ⟨a, 0, none⟩))) ∧ w.heap.size ≤ a ∧ Ft w' a (c.1 : Nat) (c.2 : Nat) ∧ w.grownBy w' none)
theorem firstQ_hit (c d : Nat) (r : List (Nat × Nat)) (h : c ≠ 0) : firstQ ((c, d) :: r) = (c, d) := if_neg h
theorem firstQ_on (d : Nat) (r : List (Nat × Nat)) : firstQ ((0, d) :: r) = firstQ r := if_pos rfl
/-- The questions, as they stand in memory. -/
def Asks (w : World) (g : Nat) (xs : List Nat) : Prop :=
  w.cell? ⟨g, 0, none⟩ = some (.func (.func 137) #[] #[.pointer (some ⟨xs.getD 0 0, 0, none⟩)]) ∧
  w.cell? ⟨g, 1, none⟩ = some (.func (.func 138) #[] #[.pointer (some ⟨xs.getD 1 0, 0, none⟩)]) ∧
  w.cell? ⟨g, 2, none⟩ = some (.func (.func 140) #[] #[.pointer (some ⟨xs.getD 2 0, 0, none⟩)]) ∧
  w.cell? ⟨g, 3, none⟩ = some (.func (.func 141) #[] #[.pointer (some ⟨xs.getD 3 0, 0, none⟩)]) ∧
  w.cell? ⟨g, 4, none⟩ = some (.func (.func 142) #[] #[.pointer (some ⟨xs.getD 4 0, 0, none⟩)])
set_option maxRecDepth 100000 in
set_option maxHeartbeats 2000000 in
theorem ask_any (g : Nat) (x0 x1 x2 x3 x4 : Nat) (c0 c1 c2 c3 c4 : Nat × Nat) (w : World) (hA : Asks w g [x0, x1, x2, x3, x4])
    (H0 : ∀ W, w.grownBy W none → Calls Tryz.prog 137 #[.pointer (some ⟨x0, 0, none⟩)] W (Says W c0))
    (H1 : ∀ W, w.grownBy W none → Calls Tryz.prog 138 #[.pointer (some ⟨x1, 0, none⟩)] W (Says W c1))
    (H2 : ∀ W, w.grownBy W none → Calls Tryz.prog 140 #[.pointer (some ⟨x2, 0, none⟩)] W (Says W c2))
    (H3 : ∀ W, w.grownBy W none → Calls Tryz.prog 141 #[.pointer (some ⟨x3, 0, none⟩)] W (Says W c3))
    (H4 : ∀ W, w.grownBy W none → Calls Tryz.prog 142 #[.pointer (some ⟨x4, 0, none⟩)] W (Says W c4)) :
    Calls Tryz.prog 121 #[.slice (some ⟨g, 0, none⟩) 5 5] w (Asked w (firstQ [c0, c1, c2, c3, c4])) := by
  obtain ⟨k0, k1, k2, k3, k4⟩ := hA
  simp only [List.getD_cons_zero, List.getD_cons_succ] at k0 k1 k2 k3 k4
  replace H0 := Lib.hid H0
  obtain ⟨a0, b0⟩ := c0
  replace H1 := Lib.hid H1
  obtain ⟨a1, b1⟩ := c1
  replace H2 := Lib.hid H2
  obtain ⟨a2, b2⟩ := c2
  replace H3 := Lib.hid H3
  obtain ⟨a3, b3⟩ := c3
  replace H4 := Lib.hid H4
  obtain ⟨a4, b4⟩ := c4
  go_enter Tryz.func121, Tryz.ntmps121
  go_wp2
  refine wp_loop_rounds 6 ?_
  have g0 := gb_refl w none
  rw [rounds_succ]
  by_cases z : a0 = 0
  rotate_left
  · have hz : ((a0 : Int) != 0) = true := by simp [z]
    have HZ := Lib.hid z
    clear z
    go_wp2_with (go_at_call 137; (with_reducible refine (H0.out _ g0).mono ?_); rintro e wn ⟨rfl, g⟩)
    go_ret
    rw [firstQ_hit _ _ _ HZ.out]
    refine ⟨fun h => absurd h HZ.out, fun _ => ⟨_, rfl, (gb_trans g0 g).size, Blk.mk _ _ _, gb_trans (gb_trans g0 g) (gb_alloc _ _ _)⟩⟩
  subst z
  rw [firstQ_on]
  go_wp2_with (go_at_call 137; (with_reducible refine (H0.out _ g0).mono ?_); rintro e w1 ⟨rfl, g⟩; replace k1 := g.cell k1 (by simp); replace k2 := g.cell k2 (by simp); replace k3 := g.cell k3 (by simp); replace k4 := g.cell k4 (by simp);  have g1 := gb_trans g0 g; clear g)
  rw [rounds_succ]
  by_cases z : a1 = 0
  rotate_left
  · have hz : ((a1 : Int) != 0) = true := by simp [z]
    have HZ := Lib.hid z
    clear z
    go_wp2_with (go_at_call 138; (with_reducible refine (H1.out _ g1).mono ?_); rintro e wn ⟨rfl, g⟩)
    go_ret
    rw [firstQ_hit _ _ _ HZ.out]
    refine ⟨fun h => absurd h HZ.out, fun _ => ⟨_, rfl, (gb_trans g1 g).size, Blk.mk _ _ _, gb_trans (gb_trans g1 g) (gb_alloc _ _ _)⟩⟩
  subst z
  rw [firstQ_on]
  go_wp2_with (go_at_call 138; (with_reducible refine (H1.out _ g1).mono ?_); rintro e w2 ⟨rfl, g⟩; replace k2 := g.cell k2 (by simp); replace k3 := g.cell k3 (by simp); replace k4 := g.cell k4 (by simp);  have g2 := gb_trans g1 g; clear g)
  rw [rounds_succ]
  by_cases z : a2 = 0
  rotate_left
  · have hz : ((a2 : Int) != 0) = true := by simp [z]
    have HZ := Lib.hid z
    clear z
    go_wp2_with (go_at_call 140; (with_reducible refine (H2.out _ g2).mono ?_); rintro e wn ⟨rfl, g⟩)
    go_ret
    rw [firstQ_hit _ _ _ HZ.out]
    refine ⟨fun h => absurd h HZ.out, fun _ => ⟨_, rfl, (gb_trans g2 g).size, Blk.mk _ _ _, gb_trans (gb_trans g2 g) (gb_alloc _ _ _)⟩⟩
  subst z
  rw [firstQ_on]
  go_wp2_with (go_at_call 140; (with_reducible refine (H2.out _ g2).mono ?_); rintro e w3 ⟨rfl, g⟩; replace k3 := g.cell k3 (by simp); replace k4 := g.cell k4 (by simp);  have g3 := gb_trans g2 g; clear g)
  rw [rounds_succ]
  by_cases z : a3 = 0
  rotate_left
  · have hz : ((a3 : Int) != 0) = true := by simp [z]
    have HZ := Lib.hid z
    clear z
    go_wp2_with (go_at_call 141; (with_reducible refine (H3.out _ g3).mono ?_); rintro e wn ⟨rfl, g⟩)
    go_ret
    rw [firstQ_hit _ _ _ HZ.out]
    refine ⟨fun h => absurd h HZ.out, fun _ => ⟨_, rfl, (gb_trans g3 g).size, Blk.mk _ _ _, gb_trans (gb_trans g3 g) (gb_alloc _ _ _)⟩⟩
  subst z
  rw [firstQ_on]
  go_wp2_with (go_at_call 141; (with_reducible refine (H3.out _ g3).mono ?_); rintro e w4 ⟨rfl, g⟩; replace k4 := g.cell k4 (by simp);  have g4 := gb_trans g3 g; clear g)
  rw [rounds_succ]
  by_cases z : a4 = 0
  rotate_left
  · have hz : ((a4 : Int) != 0) = true := by simp [z]
    have HZ := Lib.hid z
    clear z
    go_wp2_with (go_at_call 142; (with_reducible refine (H4.out _ g4).mono ?_); rintro e wn ⟨rfl, g⟩)
    go_ret
    rw [firstQ_hit _ _ _ HZ.out]
    refine ⟨fun h => absurd h HZ.out, fun _ => ⟨_, rfl, (gb_trans g4 g).size, Blk.mk _ _ _, gb_trans (gb_trans g4 g) (gb_alloc _ _ _)⟩⟩
  subst z
  rw [firstQ_on]
  go_wp2_with (go_at_call 142; (with_reducible refine (H4.out _ g4).mono ?_); rintro e w5 ⟨rfl, g⟩;  have g5 := gb_trans g4 g; clear g)
  rw [rounds_succ]
  go_wp2
  go_ret
  exact ⟨fun _ => ⟨rfl, g5⟩, fun h => absurd rfl h⟩
end Go.Proofs.YtliiooldlooagaaGreatDoor.C7

/-
  What Open answers of any text, over this seat's translation; no conditions beside the model's own.
-/
namespace Go.Proofs.YtliiooldlooagaaGreatDoor.C7
open Go.RowKit

/-- A question, new: what it looks at stands in a box of its own. -/
def Quest (w : World) (f : Nat) (v : Value) (e : Ending) (w' : World) : Prop :=
  ∃ x : Nat, e = .returned (.func (.func f) #[] #[.pointer (some ⟨x, 0, none⟩)]) ∧ w.heap.size ≤ x ∧ w'.cell? ⟨x, 0, none⟩ = some v ∧ w.grownBy w' none
theorem mk_whole (s : ByteArray) (w : World) : Calls Tryz.prog 122 #[.string s] w (Quest w 137 (.string s)) := by
  go_enter Tryz.func122, Tryz.ntmps122
  go_wp2
  go_ret
  exact ⟨_, rfl, Nat.le_refl _, Blk.cell (Blk.mk _ _ _) 0 rfl, gb_alloc _ _ _⟩
theorem mk_summed (b : Nat) (w : World) : Calls Tryz.prog 123 #[.pointer (some ⟨b, 0, none⟩)] w (Quest w 138 (.pointer (some ⟨b, 0, none⟩))) := by
  go_enter Tryz.func123, Tryz.ntmps123
  go_wp2
  go_ret
  exact ⟨_, rfl, Nat.le_refl _, Blk.cell (Blk.mk _ _ _) 0 rfl, gb_alloc _ _ _⟩
theorem mk_kind (b : Nat) (w : World) : Calls Tryz.prog 124 #[.pointer (some ⟨b, 0, none⟩)] w (Quest w 140 (.pointer (some ⟨b, 0, none⟩))) := by
  go_enter Tryz.func124, Tryz.ntmps124
  go_wp2
  go_ret
  exact ⟨_, rfl, Nat.le_refl _, Blk.cell (Blk.mk _ _ _) 0 rfl, gb_alloc _ _ _⟩
theorem mk_room (b : Nat) (w : World) : Calls Tryz.prog 125 #[.pointer (some ⟨b, 0, none⟩)] w (Quest w 141 (.pointer (some ⟨b, 0, none⟩))) := by
  go_enter Tryz.func125, Tryz.ntmps125
  go_wp2
  go_ret
  exact ⟨_, rfl, Nat.le_refl _, Blk.cell (Blk.mk _ _ _) 0 rfl, gb_alloc _ _ _⟩
theorem mk_blank (b : Nat) (w : World) : Calls Tryz.prog 126 #[.pointer (some ⟨b, 0, none⟩)] w (Quest w 142 (.pointer (some ⟨b, 0, none⟩))) := by
  go_enter Tryz.func126, Tryz.ntmps126
  go_wp2
  go_ret
  exact ⟨_, rfl, Nat.le_refl _, Blk.cell (Blk.mk _ _ _) 0 rfl, gb_alloc _ _ _⟩
theorem first_open (s : ByteArray) : firstQ [q0 s.size, q1 (secF s.data.toList), q2 (secF s.data.toList), q3 (secF s.data.toList), q4 (secF s.data.toList)] = openF s.data.toList := by
  by_cases h : s.size = 256
  · rw [secF_whole _ h, h, openF_q _ h]
  · rw [openF_short _ h]
    unfold q0
    rw [if_neg h]
    exact firstQ_hit _ _ _ (by decide)
theorem openF_long (l : List UInt8) (h : (openF l).1 = 0) : longF l ≤ 240 := by
  have h := openF_zero l h
  unfold openF at h
  split at h
  · cases h
  split at h
  · cases h
  split at h
  · cases h
  split at h
  · cases h
  rename_i h3
  omega
theorem slice_body (b n : Nat) (hn : n ≤ 240) (W : World) : (Instr.sliceAt 179 (.pointer (some ⟨b, 0, none⟩)) (some (.int .i64 2)) (some (.int .i64 (2 + (n : Int)))) none).run Tryz.prog W = .ok (.slice (some ⟨b, 2, none⟩) n 254) W := by
  have h1 : (2 : Int) ≤ 2 + (n : Int) := by omega
  have h2 : (2 : Int) + (n : Int) ≤ 256 := by omega
  have h3 : ((2 : Int) + (n : Int)).toNat = 2 + n := by omega
  have h4 : (0 : Int) ≤ 2 + (n : Int) := by omega
  simp [Instr.sliceAt, run_underlying Tryz.underlying179, Sem.run_bind, Tryz.sizeOf5]
  go_simp
/-- What is opened. -/
def Opened (w : World) (l : List UInt8) (e : Ending) (w' : World) : Prop :=
  ((openF l).1 = 0 → e = .returned (.tuple #[.int .i64 (kindF l : Nat), .string ⟨(bodyF l).toArray⟩, .nilIface]) ∧ w.grownBy w' none) ∧
  ((openF l).1 ≠ 0 → ∃ a : Nat, e = .returned (.tuple #[.int .i64 0, .string ⟨#[]⟩, .iface 209 (.pointer (some ⟨a, 0, none⟩))]) ∧ w.heap.size ≤ a ∧ Ft w' a ((openF l).1 : Nat) ((openF l).2 : Nat) ∧ w.grownBy w' none)
theorem asks_new (w : World) (x0 x1 x2 x3 x4 : Nat) : Asks (w.alloc (.cells #[.func (.func 137) #[] #[.pointer (some ⟨x0, 0, none⟩)], .func (.func 138) #[] #[.pointer (some ⟨x1, 0, none⟩)], .func (.func 140) #[] #[.pointer (some ⟨x2, 0, none⟩)], .func (.func 141) #[] #[.pointer (some ⟨x3, 0, none⟩)], .func (.func 142) #[] #[.pointer (some ⟨x4, 0, none⟩)]] 200)) w.heap.size [x0, x1, x2, x3, x4] :=
  ⟨Blk.cell (Blk.mk _ _ _) 0 rfl, Blk.cell (Blk.mk _ _ _) 1 rfl, Blk.cell (Blk.mk _ _ _) 2 rfl, Blk.cell (Blk.mk _ _ _) 3 rfl, Blk.cell (Blk.mk _ _ _) 4 rfl⟩
theorem asks_grown (w : World) (x0 x1 x2 x3 x4 : Nat) : w.grownBy (w.alloc (.cells #[.func (.func 137) #[] #[.pointer (some ⟨x0, 0, none⟩)], .func (.func 138) #[] #[.pointer (some ⟨x1, 0, none⟩)], .func (.func 140) #[] #[.pointer (some ⟨x2, 0, none⟩)], .func (.func 141) #[] #[.pointer (some ⟨x3, 0, none⟩)], .func (.func 142) #[] #[.pointer (some ⟨x4, 0, none⟩)]] 200)) none := gb_alloc _ _ _
set_option maxRecDepth 100000 in
set_option maxHeartbeats 2000000 in
theorem open_bad (s : ByteArray) (w : World) (hz : (openF s.data.toList).1 ≠ 0) :
    Calls Tryz.prog 102 #[.string s] w (Opened w s.data.toList) := by
  have hcp := fun ty => copy_text (Sec.mk w) s ty
  have hsec : Sec ((w.alloc (.cells Tryz.zeroCells179 179)).setRow w.heap.size (bcells (secF s.data.toList)).toArray) w.heap.size (secF s.data.toList) := ⟨setRow_heap _ _ _ _ _ _ (Sec.mk w).1, secF_length _⟩
  have hg1 : w.grownBy ((w.alloc (.cells Tryz.zeroCells179 179)).setRow w.heap.size (bcells (secF s.data.toList)).toArray) none := gb_step (gb_alloc _ _ _) (gb_setRow _ _ _) (Nat.le_refl _)
  have HF := Lib.hid (first_open s)
  have hsw : s.size = 256 → secF s.data.toList = s.data.toList := fun h => secF_whole _ h
  have HW := Lib.hid hsw
  clear hsw
  generalize (w.alloc (.cells Tryz.zeroCells179 179)).setRow w.heap.size (bcells (secF s.data.toList)).toArray = W0 at hcp hsec hg1
  generalize secF s.data.toList = l at HF hsec HW
  have HS := Lib.hid hsec
  have HG := Lib.hid hg1
  have HZ := Lib.hid hz
  clear hsec hg1 hz
  go_enter Tryz.func102, Tryz.ntmps102
  go_wp2_with (first
    | (go_at_call 122; (with_reducible refine (mk_whole s _).mono ?_); rintro e w1 ⟨x0, rfl, hx0, c0, g1⟩)
    | (go_at_call 123; (with_reducible refine (mk_summed _ _).mono ?_); rintro e w2 ⟨x1, rfl, hx1, c1, g2⟩)
    | (go_at_call 124; (with_reducible refine (mk_kind _ _).mono ?_); rintro e w3 ⟨x2, rfl, hx2, c2, g3⟩)
    | (go_at_call 125; (with_reducible refine (mk_room _ _).mono ?_); rintro e w4 ⟨x3, rfl, hx3, c3, g4⟩)
    | (go_at_call 126; (with_reducible refine (mk_blank _ _).mono ?_); rintro e w5 ⟨x4, rfl, hx4, c4, g5⟩)
    | (go_at_call 121
       have hA := asks_new w5 x0 x1 x2 x3 x4
       have gA := asks_grown w5 x0 x1 x2 x3 x4
       (with_reducible refine (ask_any _ x0 x1 x2 x3 x4 (q0 s.size) (q1 l) (q2 l) (q3 l) (q4 l) _ hA
         (fun W g => whole_any x0 s W ((gb_trans g2 (gb_trans g3 (gb_trans g4 (gb_trans g5 (gb_trans gA g))))).cell c0 (by simp)))
         (fun W g => summed_any x1 _ l W ((gb_trans g3 (gb_trans g4 (gb_trans g5 (gb_trans gA g)))).cell c1 (by simp)) (HS.out.keep0 (gb_trans g1 (gb_trans g2 (gb_trans g3 (gb_trans g4 (gb_trans g5 (gb_trans gA g))))))))
         (fun W g => kind_any x2 _ l W ((gb_trans g4 (gb_trans g5 (gb_trans gA g))).cell c2 (by simp)) (HS.out.keep0 (gb_trans g1 (gb_trans g2 (gb_trans g3 (gb_trans g4 (gb_trans g5 (gb_trans gA g))))))))
         (fun W g => room_any x3 _ l W ((gb_trans g5 (gb_trans gA g)).cell c3 (by simp)) (HS.out.keep0 (gb_trans g1 (gb_trans g2 (gb_trans g3 (gb_trans g4 (gb_trans g5 (gb_trans gA g))))))))
         (fun W g => blank_any x4 _ l W ((gb_trans gA g).cell c4 (by simp)) (HS.out.keep0 (gb_trans g1 (gb_trans g2 (gb_trans g3 (gb_trans g4 (gb_trans g5 (gb_trans gA g)))))))) ).mono ?_)
       rintro e w6 hQ
       rw [HF.out] at hQ
       have gp := gb_trans HG.out (gb_trans g1 (gb_trans g2 (gb_trans g3 (gb_trans g4 (gb_trans g5 gA)))))
       obtain ⟨a, rfl, ha, f6, g6⟩ := hQ.2 HZ.out)
    | fail)
  go_ret3
  exact ⟨fun h => absurd h HZ.out, fun _ => ⟨a, rfl, Nat.le_trans gp.size ha, f6, gb_trans gp g6⟩⟩
set_option maxRecDepth 100000 in
set_option maxHeartbeats 2000000 in
theorem open_good (s : ByteArray) (w : World) (hz : (openF s.data.toList).1 = 0) :
    Calls Tryz.prog 102 #[.string s] w (Opened w s.data.toList) := by
  have hcp := fun ty => copy_text (Sec.mk w) s ty
  have hsec : Sec ((w.alloc (.cells Tryz.zeroCells179 179)).setRow w.heap.size (bcells (secF s.data.toList)).toArray) w.heap.size (secF s.data.toList) := ⟨setRow_heap _ _ _ _ _ _ (Sec.mk w).1, secF_length _⟩
  have hg1 : w.grownBy ((w.alloc (.cells Tryz.zeroCells179 179)).setRow w.heap.size (bcells (secF s.data.toList)).toArray) none := gb_step (gb_alloc _ _ _) (gb_setRow _ _ _) (Nat.le_refl _)
  have HF := Lib.hid (first_open s)
  have hsw : s.size = 256 → secF s.data.toList = s.data.toList := fun h => secF_whole _ h
  have HW := Lib.hid hsw
  clear hsw
  generalize (w.alloc (.cells Tryz.zeroCells179 179)).setRow w.heap.size (bcells (secF s.data.toList)).toArray = W0 at hcp hsec hg1
  generalize secF s.data.toList = l at HF hsec HW
  have HS := Lib.hid hsec
  have HG := Lib.hid hg1
  have HZ := Lib.hid hz
  clear hsec hg1 hz
  go_enter Tryz.func102, Tryz.ntmps102
  go_wp2_with (first
    | (go_at_call 122; (with_reducible refine (mk_whole s _).mono ?_); rintro e w1 ⟨x0, rfl, hx0, c0, g1⟩)
    | (go_at_call 123; (with_reducible refine (mk_summed _ _).mono ?_); rintro e w2 ⟨x1, rfl, hx1, c1, g2⟩)
    | (go_at_call 124; (with_reducible refine (mk_kind _ _).mono ?_); rintro e w3 ⟨x2, rfl, hx2, c2, g3⟩)
    | (go_at_call 125; (with_reducible refine (mk_room _ _).mono ?_); rintro e w4 ⟨x3, rfl, hx3, c3, g4⟩)
    | (go_at_call 126; (with_reducible refine (mk_blank _ _).mono ?_); rintro e w5 ⟨x4, rfl, hx4, c4, g5⟩)
    | (go_at_call 121
       have hA := asks_new w5 x0 x1 x2 x3 x4
       have gA := asks_grown w5 x0 x1 x2 x3 x4
       (with_reducible refine (ask_any _ x0 x1 x2 x3 x4 (q0 s.size) (q1 l) (q2 l) (q3 l) (q4 l) _ hA
         (fun W g => whole_any x0 s W ((gb_trans g2 (gb_trans g3 (gb_trans g4 (gb_trans g5 (gb_trans gA g))))).cell c0 (by simp)))
         (fun W g => summed_any x1 _ l W ((gb_trans g3 (gb_trans g4 (gb_trans g5 (gb_trans gA g)))).cell c1 (by simp)) (HS.out.keep0 (gb_trans g1 (gb_trans g2 (gb_trans g3 (gb_trans g4 (gb_trans g5 (gb_trans gA g))))))))
         (fun W g => kind_any x2 _ l W ((gb_trans g4 (gb_trans g5 (gb_trans gA g))).cell c2 (by simp)) (HS.out.keep0 (gb_trans g1 (gb_trans g2 (gb_trans g3 (gb_trans g4 (gb_trans g5 (gb_trans gA g))))))))
         (fun W g => room_any x3 _ l W ((gb_trans g5 (gb_trans gA g)).cell c3 (by simp)) (HS.out.keep0 (gb_trans g1 (gb_trans g2 (gb_trans g3 (gb_trans g4 (gb_trans g5 (gb_trans gA g))))))))
         (fun W g => blank_any x4 _ l W ((gb_trans gA g).cell c4 (by simp)) (HS.out.keep0 (gb_trans g1 (gb_trans g2 (gb_trans g3 (gb_trans g4 (gb_trans g5 (gb_trans gA g)))))))) ).mono ?_)
       rintro e w6 hQ
       rw [HF.out] at hQ
       have gp := gb_trans HG.out (gb_trans g1 (gb_trans g2 (gb_trans g3 (gb_trans g4 (gb_trans g5 gA)))))
       obtain ⟨rfl, g6⟩ := hQ.1 HZ.out)
    | fail)
  have hsz : s.size = 256 := by
    rcases Classical.em (s.size = 256) with h | h
    · exact h
    · have := HZ.out; rw [openF_short _ h] at this; cases this
  have hl := HW.out hsz
  have h3 := openF_long _ HZ.out
  rw [← hl] at HZ h3 ⊢
  have S6 := HS.out.keep0 (gb_trans g1 (gb_trans g2 (gb_trans g3 (gb_trans g4 (gb_trans g5 (gb_trans (asks_grown w5 x0 x1 x2 x3 x4) g6))))))
  have b0 := S6.byte 0 (by omega)
  rw [show (l.getD 0 0).toNat = kindF l from rfl] at b0
  have hst := (S6.keep0 (gb_drew _ none)).str 2 (longF l) 254 (by omega) (by omega)
  have HE := Lib.hid (fun W (g : w6.grownBy W none) => end_any w.heap.size l W (S6.keep0 g))
  have HB := Lib.hid (show ((l.drop 2).take (longF l)) = bodyF l by unfold bodyF; rw [List.drop_take, Nat.add_sub_cancel_left])
  have gall := gb_trans gp g6
  clear c0 c1 c2 c3 c4 g1 g2 g3 g4 g5 gA g6 hA hQ gp hx0 hx1 hx2 hx3 hx4 hcp
  rw [HB.out] at hst
  have HO := Lib.hid (show openF l = openF s.data.toList by rw [hl])
  have HK := Lib.hid (show kindF l = kindF s.data.toList ∧ bodyF l = bodyF s.data.toList by rw [hl]; exact ⟨rfl, rfl⟩)
  have hkl := kindF_lt l
  generalize longF l = n at hst h3 HE
  generalize kindF l = k at b0 HK hkl
  generalize bodyF l = r at hst HK
  clear hl S6 HF HW HS hsz
  have hsl := fun W => slice_body w.heap.size n h3 W
  have hkw : IntKind.i64.wrap (k : Int) = (k : Int) := IntWalk.i64_in _ (by omega)
  go_region_with (go_at_call 127; (with_reducible refine (HE.out _ (by first | exact gb_drew _ _ | exact gb_drewN _ _ _)).mono ?_); rintro e w' ⟨rfl, rfl⟩)
  all_goals
    go_wp2
    go_ret3
    refine ⟨fun _ => ⟨?_, gb_trans gall (gb_drew _ _)⟩, fun h => absurd (by rw [← HO.out]; exact HZ.out) h⟩
    rw [← HK.out.1, ← HK.out.2]
    rfl
theorem open_any (s : ByteArray) (w : World) :
    Calls Tryz.prog 102 #[.string s] w (Opened w s.data.toList) := by
  by_cases h : (openF s.data.toList).1 = 0
  · exact open_good s w h
  · exact open_bad s w h
end Go.Proofs.YtliiooldlooagaaGreatDoor.C7

/-
  What Seal answers of any kind and text, over this seat's translation; no conditions beside the model's own.
-/
namespace Go.Proofs.YtliiooldlooagaaGreatDoor.C7
open Go.RowKit

/-- What Seal answers: no text and a code, or the sealed bytes. -/
def sealE (k : Int) (b : List UInt8) : Nat := if k < 1 ∨ 255 < k then 6 else if 240 < b.length then 4 else 0
def sealS (k : Int) (b : List UInt8) : List UInt8 := if sealE k b = 0 then sealF k.toNat b else []
/-- What is sealed. -/
def Sealed (w : World) (k : Int) (b : List UInt8) (e : Ending) (w' : World) : Prop :=
  e = .returned (.tuple #[.string ⟨(sealS k b).toArray⟩, .int .i64 (sealE k b : Nat)]) ∧ w.grownBy w' none
set_option maxHeartbeats 1000000 in
theorem seal_kind (k : Int) (s : ByteArray) (w : World) (hk : k < 1 ∨ 255 < k) :
    Calls Tryz.prog 78 #[.int .i64 k, .string s] w (Sealed w k s.data.toList) := by
  have he : sealE k s.data.toList = 6 := if_pos hk
  have hs : sealS k s.data.toList = [] := by unfold sealS; rw [he, if_neg (by decide)]
  have HE := Lib.hid he
  have HS := Lib.hid hs
  clear he hs
  rcases hk with hk | hk
  · go_enter Tryz.func78, Tryz.ntmps78
    go_wp2
    go_ret2
    exact ⟨by rw [HE.out, HS.out]; rfl, gb_refl _ _⟩
  · have hk0 : ¬ k < 1 := by omega
    go_enter Tryz.func78, Tryz.ntmps78
    go_wp2
    go_ret2
    exact ⟨by rw [HE.out, HS.out]; rfl, gb_refl _ _⟩
set_option maxHeartbeats 1000000 in
theorem seal_long (k : Int) (s : ByteArray) (w : World) (h1 : 1 ≤ k) (h2 : k ≤ 255) (hl : 240 < s.size) :
    Calls Tryz.prog 78 #[.int .i64 k, .string s] w (Sealed w k s.data.toList) := by
  have he : sealE k s.data.toList = 4 := by unfold sealE; rw [if_neg (by omega), if_pos (by exact hl)]
  have hs : sealS k s.data.toList = [] := by unfold sealS; rw [he, if_neg (by decide)]
  have HE := Lib.hid he
  have HS := Lib.hid hs
  clear he hs
  have hk0 : ¬ k < 1 := by omega
  have hk1 : ¬ 255 < k := by omega
  have hl1 : 240 < (s.size : Int) := by omega
  go_enter Tryz.func78, Tryz.ntmps78
  go_wp2
  go_ret2
  exact ⟨by rw [HE.out, HS.out]; rfl, gb_refl _ _⟩
theorem sec_first (w : World) (k : Nat) (hk : k < 256) : Sec (w.alloc (.cells (Tryz.zeroCells179.setIfInBounds 0 (.int .u8 (k : Nat))) 179)) w.heap.size ((rep 256).set 0 (UInt8.ofNat k)) := by
  refine ⟨?_, by rw [List.length_set]; exact rep_length _⟩
  have e : Tryz.zeroCells179.setIfInBounds 0 (.int .u8 (k : Nat)) = (bcells ((rep 256).set 0 (UInt8.ofNat k))).toArray := by
    rw [zero_cells, List.setIfInBounds_toArray]
    unfold bcells
    rw [List.map_set, u8_of k hk]
  rw [e]
  exact Blk.mk _ _ _
theorem head_put (k : Nat) (b : List UInt8) (h : b.length ≤ 240) : putAt ((rep 256).set 0 (UInt8.ofNat k)) 1 (digits b.length 1 ++ b) = headF k b ++ rep 4 := by
  have e1 : (rep 256).set 0 (UInt8.ofNat k) = UInt8.ofNat k :: rep 255 := by
    rw [show rep 256 = 0 :: rep 255 from List.replicate_succ]; rfl
  have e2 : digits b.length 1 = [UInt8.ofNat b.length] := by
    show [UInt8.ofNat (b.length % 256)] = _
    rw [Nat.mod_eq_of_lt (by omega)]
  have e3 : rep (254 - b.length) = rep (250 - b.length) ++ rep 4 := by rw [← rep_add]; congr 1; omega
  unfold putAt
  rw [e1, e2]
  show UInt8.ofNat k :: ([] ++ (UInt8.ofNat b.length :: b)) ++ (UInt8.ofNat k :: rep 255).drop (1 + (b.length + 1)) = _
  rw [show 1 + (b.length + 1) = (b.length + 1) + 1 by omega, List.drop_succ_cons, rep_drop, show 255 - (b.length + 1) = 254 - b.length by omega, e3]
  simp [headF]
theorem seal_put (k : Nat) (b : List UInt8) (h : b.length ≤ 240) (r : List UInt8) (hr : r.length = 4) : putAt (headF k b ++ rep 4) 252 r = headF k b ++ r := by
  unfold putAt
  have hl := headF_length k b (by omega)
  rw [List.take_append_of_le_length (by omega), List.take_of_length_le (by omega), hr, List.drop_eq_nil_of_le (by simp [hl, rep_length]), List.append_nil]
set_option maxRecDepth 100000 in
set_option maxHeartbeats 2000000 in
theorem seal_good (k : Nat) (s : ByteArray) (w : World) (h1 : 1 ≤ k) (h2 : k ≤ 255) (hl : s.size ≤ 240) :
    Calls Tryz.prog 78 #[.int .i64 (k : Nat), .string s] w (Sealed w k s.data.toList) := by
  have he : sealE k s.data.toList = 0 := by unfold sealE; rw [if_neg (by omega), if_neg (by show ¬ 240 < s.size; omega)]
  have hs : sealS k s.data.toList = sealF k s.data.toList := by unfold sealS; rw [he, if_pos rfl, Int.toNat_natCast]
  have HE := Lib.hid he
  have HS := Lib.hid hs
  clear he hs
  have hk0 : ¬ (k : Int) < 1 := by omega
  have hk1 : ¬ 255 < (k : Int) := by omega
  have hl1 : ¬ 240 < (s.size : Int) := by omega
  have hkw : IntKind.u8.wrap (k : Int) = (k : Int) := by rw [IntKind.wrap_u8']; omega
  go_enter Tryz.func78, Tryz.ntmps78
  go_wp2
  have S1 := sec_first w k (by omega)
  have g0 := gb_alloc w (.cells (Tryz.zeroCells179.setIfInBounds 0 (.int .u8 (k : Nat))) 179) none
  generalize w.alloc (.cells (Tryz.zeroCells179.setIfInBounds 0 (.int .u8 (k : Nat))) 179) = W1 at S1 g0 ⊢
  have HP := Lib.hid (head_put k s.data.toList hl)
  have hsl : s.data.toList.length = s.size := rfl
  rw [hsl] at HP
  have HL := Lib.hid hl
  have HS1 := Lib.hid S1
  have HG0 := Lib.hid g0
  clear S1 g0 hl hsl
  go_region_with (go_at_call 105
                  (with_reducible refine (ptext_ok _ [] s _ (Bs.nil _) (by have := HL.out; omega) (by simp)).mono ?_)
                  rintro e w2 ⟨v2, rfl, o2, g2⟩
                  have cp := fun ty => copy_bs (HS1.out.keep0 (gb_trans (gb_drew _ _) g2)) (Bs.of_owns o2) 1 255 255 (by simp [digits_length]; have := HL.out; omega) (by simp [digits_length]; have := HL.out; omega) (by simp [digits]) ty)
  have S2 : Sec (w2.setRow w.heap.size (bcells (putAt ((rep 256).set 0 (UInt8.ofNat k)) 1 (digits s.size 1 ++ s.data.toList))).toArray) w.heap.size (putAt ((rep 256).set 0 (UInt8.ofNat k)) 1 (digits s.size 1 ++ s.data.toList)) :=
    (HS1.out.keep0 (gb_trans (gb_drew _ _) g2)).row 1 _ (by simp [digits_length]; have := HL.out; omega)
  have G2 : w.grownBy (w2.setRow w.heap.size (bcells (putAt ((rep 256).set 0 (UInt8.ofNat k)) 1 (digits s.size 1 ++ s.data.toList))).toArray) none := gb_step (gb_trans HG0.out (gb_trans (gb_drew _ _) g2)) (gb_setRow _ _ _) (Nat.le_refl _)
  rw [HP.out] at S2 G2 ⊢
  generalize w2.setRow w.heap.size (bcells (headF k s.data.toList ++ rep 4)).toArray = W2 at S2 G2 ⊢
  have ht : (headF k s.data.toList ++ rep 4).take 252 = headF k s.data.toList := by
    rw [List.take_append_of_le_length (by rw [headF_length _ _ (by have := HL.out; show s.size ≤ _; omega)]; exact Nat.le_refl _)]
    exact List.take_of_length_le (by rw [headF_length _ _ (by have := HL.out; show s.size ≤ _; omega)]; exact Nat.le_refl _)
  have hsp := seal_put k s.data.toList HL.out (sumF (headF k s.data.toList)) (sumF_length _)
  generalize hh : headF k s.data.toList = h at S2 G2 ht hsp
  have HH := Lib.hid hh
  have HT := Lib.hid ht
  have HSP := Lib.hid hsp
  have HS2 := Lib.hid S2
  have HG2 := Lib.hid G2
  clear hh ht hsp S2 G2 cp o2 g2
  go_wp2
  go_region_with (go_at_call 106
                  (with_reducible refine (right_any _ _ _ (HS2.out.keep0 (gb_drew _ _))).mono ?_)
                  rintro e w3 ⟨v3, rfl, b3, g3⟩
                  rw [HT.out] at b3
                  have cp := fun ty => copy_bs (HS2.out.keep0 (gb_trans (gb_drew _ _) g3)) b3 252 4 4 (by rw [sumF_length]; omega) (by rw [sumF_length]; exact Nat.le_refl _) (fun e => by have := congrArg List.length e; rw [sumF_length] at this; cases this) ty)
  have S3 : Sec (w3.setRow w.heap.size (bcells (putAt (h ++ rep 4) 252 (sumF h))).toArray) w.heap.size (putAt (h ++ rep 4) 252 (sumF h)) :=
    (HS2.out.keep0 (gb_trans (gb_drew _ _) g3)).row 252 _ (by rw [sumF_length]; omega)
  have G3 : w.grownBy (w3.setRow w.heap.size (bcells (putAt (h ++ rep 4) 252 (sumF h))).toArray) none := gb_step (gb_trans HG2.out (gb_trans (gb_drew _ _) g3)) (gb_setRow _ _ _) (Nat.le_refl _)
  rw [HSP.out] at S3 G3 ⊢
  generalize w3.setRow w.heap.size (bcells (h ++ sumF h)).toArray = W3 at S3 G3 ⊢
  have hst := S3.str 0 256 256 (by omega) (by omega)
  rw [List.drop_zero, List.take_of_length_le (by rw [S3.2]; exact Nat.le_refl _)] at hst
  have HG3 := Lib.hid G3
  clear S3 G3 cp b3 g3
  go_wp2
  go_ret2
  refine ⟨?_, HG3.out⟩
  rw [HE.out, HS.out]
  unfold sealF
  rw [HH.out]
  rfl
theorem seal_any (k : Int) (s : ByteArray) (w : World) :
    Calls Tryz.prog 78 #[.int .i64 k, .string s] w (Sealed w k s.data.toList) := by
  by_cases h : k < 1 ∨ 255 < k
  · exact seal_kind k s w h
  · by_cases h2 : 240 < s.size
    · exact seal_long k s w (by omega) (by omega) h2
    · obtain ⟨n, rfl⟩ : ∃ n : Nat, k = (n : Int) := ⟨k.toNat, by omega⟩
      exact seal_good n s w (by omega) (by omega) (by omega)
end Go.Proofs.YtliiooldlooagaaGreatDoor.C7
