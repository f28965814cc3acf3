/-
  Roots in memory, and the document's own numbers, values and noughts, over this seat's translation; conditions: those that each law states.
-/
import Derived.Test.YtckkbcgolphajaaDoorGb
import Derived.Test.YtckkbcgolphajaaDoorQt
import Derived.Laws.MakeOwn
import Derived.Laws.IdiomStrings
import Derived.Laws.Rows
import Derived.Laws.Strings
import Derived.IntWalk
namespace Go.Proofs.YtckkbcgolphajaaDoor
open Go.RowKit

/-- A root's cells. -/
def rootC (r : Rt) : List Value := .int .u64 (r.e : Nat) :: .int .i64 r.n :: r.cs.map (Value.int .i64)
theorem rootC_length (r : Rt) (h : r.cs.length = 8) : (rootC r).length = 10 := by simp [rootC, h]
theorem rootC_chunk (r : Rt) (i : Nat) (h : i < r.cs.length) : (rootC r)[i + 2]? = some (.int .i64 (r.cs.getD i 0)) := by
  simp [rootC, List.getD_eq_getElem?_getD, h]
def RV (r : Rt) : Value := .agg (rootC r).toArray
def RB (W : World) (b : Nat) (r : Rt) : Prop := Blk W b 25 (rootC r).toArray
theorem RB.keep0 {W W' : World} {b : Nat} {r : Rt} (h : RB W b r) (g : W.grownBy W' none) : RB W' b r := Blk.keep0 h g
theorem RB.keepS {W W' : World} {b : Nat} {r : Rt} {q : Option Nat} (h : RB W b r) (g : W.grownBy W' q) (hq : some b ≠ q) : RB W' b r := Blk.keep h g hq
theorem RB.epoch {W : World} {b : Nat} {r : Rt} (h : RB W b r) : W.cell? ⟨b, 0, none⟩ = some (.int .u64 (r.e : Nat)) := Blk.cell h 0 rfl
theorem RB.sectors {W : World} {b : Nat} {r : Rt} (h : RB W b r) : W.cell? ⟨b, 1, none⟩ = some (.int .i64 r.n) := Blk.cell h 1 rfl
theorem RB.chunk {W : World} {b : Nat} {r : Rt} (h : RB W b r) (i : Nat) (hi : i < r.cs.length) : W.cell? ⟨b, i + 2, none⟩ = some (.int .i64 (r.cs.getD i 0)) := Blk.cell h (i + 2) (by rw [List.getElem?_toArray]; exact rootC_chunk r i hi)
theorem RB.load {W : World} {b : Nat} {r : Rt} (h : RB W b r) (hl : r.cs.length = 8) : (loadVar 25 ⟨b, 0, none⟩).run Tryd.prog W = .ok (RV r) W :=
  run_loadVar_row (P := Tryd.prog) W b 25 25 (rootC r).toArray (0, 0) _ h Tryd.underlying25 rfl (by rw [List.size_toArray, rootC_length r hl]; kernel_rfl)
theorem add_at (p o j : Nat) : (⟨p, o, none⟩ : Addr).add j = ⟨p, o + j, none⟩ := by unfold Addr.add; split <;> simp_all

theorem Tryd.infoByte : (Tryd.prog.info? 5).map (fun i => (i.zero, i.size, i.bytes)) = some (some (.int .u8 0), 1, 1) := by kernel_rfl
theorem made_one (v : Value) (n : Nat) (h : v.cells = #[v]) : madeCells v.cells n = (List.replicate n v).toArray := by
  rw [h]; apply Array.toList_inj.1; rw [toList_madeCells_one]
theorem bytes_zero (n : Nat) : bytesC (zer n) = List.replicate n (Value.int .u8 0) := by simp [bytesC, zer]
theorem make_bytes (n : Nat) (z : Int) (w : World) (hz : z = (n : Int)) (hn : n ≤ 100000) : (Instr.makeSlice 43 (.int .i64 z) (.int .i64 z)).run Tryd.prog w = .ok (.slice (some ⟨w.heap.size, 0, none⟩) n n) (w.alloc (.cells (bytesC (zer n)).toArray 5)) := by
  obtain ⟨i0, hi, hz0, hz1, hz2⟩ := info_parts Tryd.infoByte
  subst hz
  have h := run_make (P := Tryd.prog) w 43 5 i0 (.int .u8 0) Tryd.underlying43 hi hz0 .i64 .i64 (n : Int) (n : Int) (by omega) (by omega) (by rw [hz2]; omega) (by omega)
  rw [hz1, Nat.mul_one, Int.toNat_natCast, made_one _ _ rfl, ← bytes_zero] at h
  exact h
theorem bytes_at {l : List UInt8} {j : Nat} (h : j < l.length) : (bytesC l)[j]? = some (.int .u8 ((l.getD j 0).toNat : Nat)) := by simp [bytesC, List.getD_eq_getElem?_getD, h]
/-- A block of bytes, made a text. -/
theorem blk_text {W : World} {b : Nat} {l : List UInt8} (h : Blk W b 5 (bytesC l).toArray) (n cap : Nat) (hn : n = l.length) :
    (convert 43 9 (.slice (some ⟨b, 0, none⟩) n cap)).run Tryd.prog W = .ok (.string ⟨l.toArray⟩) W := by
  subst hn
  exact run_convert_bytes_back W 43 9 5 ⟨b, 0, none⟩ cap l Tryd.underlying43 Tryd.underlying5 Tryd.underlying9 (fun j hj => by
    rw [add_at, Nat.zero_add, h.cell j (by rw [List.getElem?_toArray]; exact bytes_at hj)]
    simp [List.getD_eq_getElem?_getD, hj])
theorem new_text (w : World) (l : List UInt8) (n : Nat) (hn : n = l.length) : (convert 43 9 (.slice (some ⟨w.heap.size, 0, none⟩) n n)).run Tryd.prog (w.alloc (.cells (bytesC l).toArray 5)) = .ok (.string ⟨l.toArray⟩) (w.alloc (.cells (bytesC l).toArray 5)) := blk_text (Blk.mk w _ _) n n hn
theorem text_eq (t : ByteArray) (l : List UInt8) (h : t.data.toList = l) : t = ⟨l.toArray⟩ := by
  apply ByteArray.ext; rw [← h]
theorem ap_list (a b : ByteArray) : (a ++ b).data.toList = a.data.toList ++ b.data.toList := by simp
theorem ex_list (s : ByteArray) (a b : Nat) : (s.extract a b).data.toList = (s.data.toList.take b).drop a := by
  rw [ByteArray.data_extract, Array.toList_extract]
  simp [List.extract_eq_take_drop, List.drop_take]
/-- A text that reads as these bytes. -/
def TextGot (w : World) (l : List UInt8) (e : Ending) (w' : World) : Prop := ∃ t : ByteArray, e = .returned (.string t) ∧ t.data.toList = l ∧ w.grownBy w' none

theorem noughts_any (n : Nat) (z : Int) (w : World) (hz : z = (n : Nat)) (hn : n ≤ 1000) : Calls Tryd.prog 25 #[.int .i64 z] w (TextGot w (zer n)) := by
  have mk := make_bytes n z w hz (by omega)
  have hc := new_text w (zer n) n (zer_length n).symm
  have g := gb_alloc w (.cells (bytesC (zer n)).toArray 5) none
  generalize w.alloc (.cells (bytesC (zer n)).toArray 5) = w1 at mk hc g
  obtain ⟨t, ht⟩ : ∃ t : ByteArray, t = ⟨(zer n).toArray⟩ := ⟨_, rfl⟩
  rw [← ht] at hc
  have HT := Lib.hid (show t.data.toList = zer n by rw [ht])
  clear ht hz
  go_enter Tryd.func25, Tryd.ntmps25
  go_wp2
  go_ret
  exact ⟨t, rfl, HT.out, g⟩
theorem dg_front (k : Nat) : ∀ n, dg n (k + 1) = UInt8.ofNat (n / 256 ^ k % 256) :: dg n k := by
  induction k with
  | zero => intro n; simp [dg]
  | succ k ih =>
    intro n
    rw [dg, ih (n / 256), Nat.div_div_eq_div_mul, Nat.mul_comm 256, ← Nat.pow_succ]
    rfl
theorem u8_wrap (x : Nat) : IntKind.u8.wrap (x : Int) = ((x % 256 : Nat) : Int) := by rw [IntKind.wrap_u8']; omega
theorem u64_small (a : Nat) (h : a < 18446744073709551616) : IntKind.u64.wrap (a : Int) = (a : Int) := by rw [IntKind.wrap_u64]; omega
set_option maxRecDepth 100000 in
set_option maxHeartbeats 1000000 in
theorem number_any (n k : Nat) (z : Int) (w : World) (hz : z = (k : Nat)) (hn : n < 18446744073709551616) (hk : k ≤ 8) : Calls Tryd.prog 24 #[.int .u64 (n : Nat), .int .i64 z] w (TextGot w (dg n k)) := by
  subst hz
  go_enter Tryd.func24, Tryd.ntmps24
  go_wp2
  go_loopw [0, 5, 6] (fun a s i wr => ∃ (j : Nat) (t : ByteArray), j ≤ k ∧ i = .int .i64 j ∧ a = .int .u64 ((n / 256 ^ j : Nat) : Nat) ∧ s = .string t ∧ t.data.toList = dg n j ∧ w.grownBy wr none) (fun _ _ i _ => 9 - (intOf i).toNat)
  case atStart => exact ⟨0, ⟨#[]⟩, by omega, rfl, by simp, rfl, rfl, gb_refl _ _⟩
  case round =>
    obtain ⟨j, t, hj, rfl, rfl, rfl, ht, hg⟩ := hrel
    by_cases hlt : j < k
    · obtain ⟨q, hq⟩ : ∃ q, n / 256 ^ j = q := ⟨_, rfl⟩
      have hqn : q < 18446744073709551616 := by rw [← hq]; exact Nat.lt_of_le_of_lt (Nat.div_le_self _ _) hn
      obtain ⟨c, hc⟩ : ∃ c : UInt8, c = UInt8.ofNat (q % 256) := ⟨_, rfl⟩
      have hcn : c.toNat = q % 256 := by rw [hc]; simp
      have e4 : IntKind.u64.wrap ((q : Int) / 256) = ((q / 256 : Nat) : Int) := by rw [show (q : Int) / 256 = ((q / 256 : Nat) : Int) from by omega]; exact u64_small _ (by omega)
      have hcv := new_text wr [c] 1 rfl
      simp only [bytesC, List.map_cons, List.map_nil] at hcv
      rw [show ((c.toNat : Nat) : Int) = (q : Int) % 256 from by rw [hcn]; omega] at hcv
      have hts : t.size ≤ 8 := by show t.data.size ≤ 8; rw [← Array.length_toList, ht, dg_length]; omega
      have HN := Lib.hid (show ∀ u : ByteArray, u = (⟨#[c]⟩ : ByteArray) ++ t → u.data.toList = dg n (j + 1) from fun u hu => by rw [hu, ap_list, ht, dg_front, hq, ← hc]; rfl)
      have HQ := Lib.hid (show n / 256 ^ (j + 1) = q / 256 by rw [Nat.pow_succ, ← Nat.div_div_eq_div_mul, hq])
      have hgn := gb_trans hg (gb_alloc wr (.cells #[.int .u8 ((q : Int) % 256)] 5) none)
      rw [hq]
      clear hq hc ht
      go_wp2
      go_roundw
      case rel => exact ⟨j + 1, _, by omega, by go_num, by rw [HQ.out]; first | rfl | (congr 2; omega), rfl, HN.out _ rfl, hgn⟩
      case measure => simp [intOf]; omega
    · obtain rfl : j = k := by omega
      have HT := Lib.hid ht
      clear ht
      go_wp2
      go_ret
      exact ⟨t, rfl, HT.out, hg⟩
theorem take_snocB (s : ByteArray) (k : Nat) (h : k < s.size) : s.data.toList.take (k + 1) = s.data.toList.take k ++ [s[k]] := by
  rw [List.take_succ_eq_append_getElem (by simpa using h)]; rfl
theorem pow_le8 (k : Nat) (h : k ≤ 8) : 256 ^ k ≤ 18446744073709551616 := by
  have h1 : 256 ^ k ≤ 256 ^ 8 := Nat.pow_le_pow_right (by decide) h
  rwa [two8] at h1
set_option maxRecDepth 100000 in
set_option maxHeartbeats 1000000 in
theorem value_any (s : ByteArray) (w : World) (hs : s.size ≤ 8) : Calls Tryd.prog 27 #[.string s] w fun e w' => e = .returned (.int .u64 (vl s.data.toList : Nat)) ∧ w = w' := by
  go_enter Tryd.func27, Tryd.ntmps27
  go_wp2
  go_loop [3, 4] (fun v i => ∃ j : Nat, j ≤ s.size ∧ i = .int .i64 j ∧ v = .int .u64 (vl (s.data.toList.take j) : Nat)) (fun _ i => 9 - (intOf i).toNat)
  case atStart => exact ⟨0, by omega, rfl, rfl⟩
  case round =>
    obtain ⟨j, hj, rfl, rfl⟩ := hrel
    by_cases hlt : j < s.size
    · have HS := Lib.hid (show vl (s.data.toList.take (j + 1)) = vl (s.data.toList.take j) * 256 + s[j].toNat by rw [take_snocB s j hlt, vl_snoc])
      have hb : s[j].toNat < 256 := s[j].toNat_lt
      have hv : vl (s.data.toList.take j) * 256 + s[j].toNat < 18446744073709551616 := by
        have h1 := vl_lt (s.data.toList.take (j + 1))
        rw [HS.out, List.length_take] at h1
        have h2 : 256 ^ min (j + 1) s.data.toList.length ≤ 18446744073709551616 := pow_le8 _ (by omega)
        omega
      generalize vl (s.data.toList.take j) = q at HS hv
      have e1 : IntKind.u64.wrap ((q : Int) * 256) = (q : Int) * 256 := by rw [show (q : Int) * 256 = ((q * 256 : Nat) : Int) from by omega]; exact u64_small _ (by omega)
      have e2 : IntKind.u64.wrap (s[j].toNat : Int) = (s[j].toNat : Int) := u64_small _ (by omega)
      have e3 : IntKind.u64.wrap ((q : Int) * 256 + (s[j].toNat : Int)) = (q : Int) * 256 + (s[j].toNat : Int) := by rw [show (q : Int) * 256 + (s[j].toNat : Int) = ((q * 256 + s[j].toNat : Nat) : Int) from by omega]; exact u64_small _ (by omega)
      go_wp2
      go_round
      case rel => exact ⟨j + 1, by omega, by go_num, by rw [HS.out]; congr 1⟩
      case measure => simp [intOf]; omega
    · have e : s.data.toList.take j = s.data.toList := List.take_of_length_le (by show s.size ≤ j; omega)
      rw [e]
      clear e
      go_wp2
      go_ret
      exact ⟨rfl, rfl⟩
/-- A root whose numbers fit. -/
def Fit (r : Rt) : Prop := r.cs.length = 8 ∧ r.e < 18446744073709551616 ∧ (-9223372036854775808 ≤ r.n ∧ r.n ≤ 9223372036854775807) ∧ ∀ i, i < 8 → -9223372036854775808 ≤ r.cs.getD i 0 ∧ r.cs.getD i 0 ≤ 9223372036854775807
def YesNo (w : World) (b : Bool) (e : Ending) (w' : World) : Prop := e = .returned (.bool b) ∧ w.grownBy w' none
theorem not_may {r : Rt} (h : ¬ MayR r) : decide (MayR r) = false := decide_eq_false h
set_option maxRecDepth 100000 in
set_option maxHeartbeats 2000000 in
theorem may_any (r : Rt) (w : World) (hr : Fit r) : Calls Tryd.prog 23 #[RV r] w (YesNo w (decide (MayR r))) := by
  obtain ⟨hl, he, hn, hc⟩ := hr
  obtain ⟨w1, hw1⟩ : ∃ w1, w.alloc (.cells (rootC r).toArray 25) = w1 := ⟨_, rfl⟩
  have k0 : RB w1 w.heap.size r := by rw [← hw1]; exact Blk.mk w _ _
  have HG := Lib.hid (show w.grownBy w1 none by rw [← hw1]; exact gb_alloc _ _ _)
  have c0 := k0.epoch
  have c1 := k0.sectors
  have HC := Lib.hid (show ∀ i, i < 8 → w1.cell? ⟨w.heap.size, 2 + i, none⟩ = some (.int .i64 (r.cs.getD i 0)) from fun i hi => by rw [Nat.add_comm]; exact k0.chunk i (by omega))
  have HI := Lib.hid hc
  obtain ⟨b, hb⟩ : ∃ b, decide (MayR r) = b := ⟨_, rfl⟩
  rw [hb]
  have HN := Lib.hid (show ¬ MayR r → b = false from fun h => by rw [← hb]; exact decide_eq_false h)
  have HY := Lib.hid (show MayR r → b = true from fun h => by rw [← hb]; exact decide_eq_true h)
  unfold RV
  clear hb k0 hc
  by_cases h0 : r.e = 0
  · have HF := Lib.hid (HN.out (fun h => h.1 h0))
    have h1 : ((r.e : Int) == 0) = true := by simp [h0]
    clear h0
    go_enter Tryd.func23, Tryd.ntmps23
    go_wp2
    go_ret
    exact ⟨by rw [HF.out]; rfl, HG.out⟩
  have h1 : ((r.e : Int) == 0) = false := by simp [h0]
  by_cases h2 : r.n < 64
  · have HF := Lib.hid (HN.out (fun h => by have := h.2.1; omega))
    go_enter Tryd.func23, Tryd.ntmps23
    go_wp2
    go_ret
    exact ⟨by rw [HF.out]; rfl, HG.out⟩
  by_cases h3 : 1024 < r.n
  · have HF := Lib.hid (HN.out (fun h => by have := h.2.2.1; omega))
    go_enter Tryd.func23, Tryd.ntmps23
    go_wp2
    go_ret
    exact ⟨by rw [HF.out]; rfl, HG.out⟩
  have H0 := Lib.hid h0
  go_enter Tryd.func23, Tryd.ntmps23
  go_wp2
  go_loop [3] (fun v => ∃ i : Nat, i ≤ 8 ∧ v = .int .i64 i ∧ Hid (∀ j, j < i → okAt r.n r.cs j)) (fun v => 9 - (intOf v).toNat)
  case atStart => exact ⟨0, by omega, rfl, Lib.hid (fun j h => absurd h (Nat.not_lt_zero j))⟩
  case round =>
    obtain ⟨i, hi, rfl, hok⟩ := hrel
    by_cases hlt : i < 8
    · obtain ⟨c, hce⟩ : ∃ c, r.cs.getD i 0 = c := ⟨_, rfl⟩
      have hci := HC.out i hlt
      have hcb := HI.out i hlt
      rw [hce] at hci hcb
      have HE := Lib.hid hce
      clear hce
      by_cases hz : c = 0
      · subst hz
        go_wp2
        go_loop [5] (fun v => ∃ k : Nat, k ≤ i ∧ v = .int .i64 k ∧ Hid ((0 : Int) ≠ 0 → ∀ m, m < k → r.cs.getD m 0 ≠ (0 : Int))) (fun v => 9 - (intOf v).toNat)
        case atStart => exact ⟨0, by omega, rfl, Lib.hid (fun _ m h => absurd h (Nat.not_lt_zero m))⟩
        case round =>
          obtain ⟨k, hk, rfl, hno⟩ := hrel
          by_cases hkl : k < i
          · have hck := HC.out k (by omega)
            have hkb := HI.out k (by omega)
            obtain ⟨d, hde⟩ : ∃ d, r.cs.getD k 0 = d := ⟨_, rfl⟩
            rw [hde] at hck hkb
            go_wp2
            go_round
            case rel => exact ⟨k + 1, by omega, by go_num, Lib.hid (fun hc m hm => by
              rcases Nat.lt_or_ge m k with h | h
              · exact hno.out hc m h
              · obtain rfl : m = k := by omega
                exact absurd rfl hc)⟩
            case measure => simp [intOf]; omega
          · obtain rfl : k = i := by omega
            go_wp2
            go_round
            case rel => exact ⟨k + 1, by omega, by go_num, Lib.hid (fun j hj => by
              rcases Nat.lt_or_ge j k with h | h
              · exact hok.out j h
              · obtain rfl : j = k := by omega
                exact Or.inl HE.out)⟩
            case measure => simp [intOf]; omega
      · have hz1 : (c != 0) = true := by simp [hz]
        by_cases hc2 : c < 2
        · have HF := Lib.hid (HN.out (fun h => by
            rcases h.2.2.2 i hlt with h5 | h5
            · rw [HE.out] at h5; exact hz h5
            · rw [HE.out] at h5; omega))
          go_wp2
          go_ret
          exact ⟨by rw [HF.out]; rfl, HG.out⟩
        by_cases hcn : r.n ≤ c
        · have HF := Lib.hid (HN.out (fun h => by
            rcases h.2.2.2 i hlt with h5 | h5
            · rw [HE.out] at h5; exact hz h5
            · rw [HE.out] at h5; omega))
          go_wp2
          go_ret
          exact ⟨by rw [HF.out]; rfl, HG.out⟩
        go_wp2
        go_loop [5] (fun v => ∃ k : Nat, k ≤ i ∧ v = .int .i64 k ∧ Hid (c ≠ 0 → ∀ m, m < k → r.cs.getD m 0 ≠ c)) (fun v => 9 - (intOf v).toNat)
        case atStart => exact ⟨0, by omega, rfl, Lib.hid (fun _ m h => absurd h (Nat.not_lt_zero m))⟩
        case round =>
          obtain ⟨k, hk, rfl, hno⟩ := hrel
          by_cases hkl : k < i
          · have hck := HC.out k (by omega)
            have hkb := HI.out k (by omega)
            obtain ⟨d, hde⟩ : ∃ d, r.cs.getD k 0 = d := ⟨_, rfl⟩
            rw [hde] at hck hkb
            by_cases hdc : d = c
            · have HF := Lib.hid (HN.out (fun h => by
                rcases h.2.2.2 i hlt with h5 | h5
                · rw [HE.out] at h5; exact hz h5
                · exact h5.2.2 k hkl (by rw [HE.out, hde, hdc])))
              have hdq : (d == c) = true := by simp [hdc]
              clear hde hdc
              go_wp2
              go_ret
              exact ⟨by rw [HF.out]; rfl, HG.out⟩
            · have hdq : (d == c) = false := by simp [hdc]
              have HD := Lib.hid hdc
              have HDE := Lib.hid hde
              clear hde hdc
              go_wp2
              go_round
              case rel => exact ⟨k + 1, by omega, by go_num, Lib.hid (fun hc m hm => by
                rcases Nat.lt_or_ge m k with h | h
                · exact hno.out hc m h
                · obtain rfl : m = k := by omega
                  rw [HDE.out]; exact HD.out)⟩
              case measure => simp [intOf]; omega
          · obtain rfl : k = i := by omega
            go_wp2
            go_round
            case rel => exact ⟨k + 1, by omega, by go_num, Lib.hid (fun j hj => by
              rcases Nat.lt_or_ge j k with h | h
              · exact hok.out j h
              · obtain rfl : j = k := by omega
                exact Or.inr (by rw [HE.out]; exact ⟨by omega, by omega, hno.out hz⟩))⟩
            case measure => simp [intOf]; omega
    · obtain rfl : i = 8 := by omega
      have HF := Lib.hid (HY.out ⟨H0.out, by omega, by omega, hok.out⟩)
      go_wp2
      go_ret
      exact ⟨by rw [HF.out]; rfl, HG.out⟩
end Go.Proofs.YtckkbcgolphajaaDoor
