/-
  The words of a map's bytes, and the map that is read of them, over this seat's translation; conditions: those that each law states.
-/
import Derived.Test.YtaihcbkdbdhihaaDoorMb
namespace Go.Proofs.YtaihcbkdbdhihaaDoor
open Go.RowKit

/-- An array of words of the call's own. -/
def Arr (W : World) (b N : Nat) : Prop := Blk W b 57 (wordsC N).toArray
theorem Arr.word {W : World} {b N : Nat} (h : Arr W b N) (k : Nat) (hk : k < 16) : W.cell? ⟨b, k, none⟩ = some (.int .u64 (wd N k : Nat)) := Blk.cell h k (by rw [List.getElem?_toArray]; exact wordsC_at _ _ hk)
theorem Arr.keep0 {W W' : World} {b N : Nat} (h : Arr W b N) (g : W.grownBy W' none) : Arr W' b N := Blk.keep0 h g
theorem Arr.load {W : World} {b N : Nat} (h : Arr W b N) : (loadVar 57 ⟨b, 0, none⟩).run Tryd.prog W = .ok (.agg (wordsC N).toArray) W := by
  have hl : (loadCells ⟨b, 0, none⟩ (wordsC N).length).run Tryd.prog W = .ok (wordsC N).toArray W :=
    run_loadCells_list (P := Tryd.prog) W ⟨b, 0, none⟩ (wordsC N) (fun j v hv => by
      have hj : j < 16 := by have := (List.getElem?_eq_some_iff.1 hv).1; rw [wordsC_length] at this; exact this
      rw [add_at, Nat.zero_add, h.word j hj]
      rw [wordsC_at _ _ hj] at hv
      exact hv)
  rw [wordsC_length] at hl
  simp [loadVar, Sem.run_bind, Tryd.isAgg57, Tryd.sizeOf57, hl]
theorem words_one (N : Nat) : (wordsC N).toArray.all (·.oneCell') = true := by
  rw [Array.all_eq_true_iff_forall_mem]
  intro v hv
  simp only [List.mem_toArray, wordsC] at hv
  obtain ⟨k, _, rfl⟩ := List.mem_map.1 hv
  rfl
theorem words_info (N : Nat) : (Tryd.prog.info? 57).map (·.size) = some (wordsC N).toArray.size := by
  rw [List.size_toArray, wordsC_length]; kernel_rfl
theorem gb_setRow (w : World) (g : Nat) (cs : Array Value) : w.grownBy (w.setRow g cs) (some g) := by
  refine ⟨rfl, rfl, rfl, by simp, fun k _ hk => ?_⟩
  exact setRow_other w g k cs (fun e => hk (by rw [e]))
theorem arr_setRow {w : World} {b M N : Nat} (h : Arr w b M) : Arr (w.setRow b (wordsC N).toArray) b N := setRow_heap w b _ _ _ _ h
theorem words_set (N k : Nat) (v : Nat) (N' : Nat) (hk : k < 16) (h : ∀ j, j < 16 → wd N' j = if j = k then v else wd N j) : (wordsC N).toArray.setIfInBounds k (.int .u64 (v : Nat)) = (wordsC N').toArray := by
  rw [List.setIfInBounds_toArray]
  congr 1
  refine List.ext_getElem? fun j => ?_
  rw [List.getElem?_set]
  rcases Nat.lt_or_ge j 16 with hj | hj
  · rw [wordsC_at _ _ hj, wordsC_at _ _ hj, h j hj, wordsC_length]
    by_cases e : k = j
    · subst e; rw [if_pos rfl, if_pos hk, if_pos rfl]
    · rw [if_neg e, if_neg (fun x => e x.symm)]
  · rw [if_neg (by omega), List.getElem?_eq_none (by rw [wordsC_length]; exact hj), List.getElem?_eq_none (by rw [wordsC_length]; exact hj)]
theorem arr_snoc {w : World} {b : Nat} {l : List UInt8} {c : UInt8} (h : Arr w b (leN l)) (hl : l.length < 128) : Arr (w.setCell ⟨b, l.length / 8, none⟩ (.int .u64 (wd (leN l) (l.length / 8) ||| c.toNat * 2 ^ (l.length % 8 * 8) : Nat))) b (leN (l ++ [c])) := by
  have := Blk.set h (l.length / 8) (.int .u64 (wd (leN l) (l.length / 8) ||| c.toNat * 2 ^ (l.length % 8 * 8) : Nat))
  rw [words_set (leN l) (l.length / 8) _ (leN (l ++ [c])) (by omega) (fun j _ => by
    rw [wd_snoc]
    split
    · rename_i e; rw [e]
    · rfl)] at this
  exact this
theorem take_snocB (s : ByteArray) (k : Nat) (h : k < s.size) : s.data.toList.take (k + 1) = s.data.toList.take k ++ [s[k]] := by
  rw [List.take_succ_eq_append_getElem (by simpa using h)]; rfl
set_option maxHeartbeats 2000000 in
theorem words_any (s : ByteArray) (w : World) (hs : s.size ≤ 128) :
    Calls Tryd.prog 37 #[.string s] w fun e w' => e = .returned (.agg (wordsC (leN s.data.toList)).toArray) ∧ w.grownBy w' none := by
  go_enter Tryd.func37, Tryd.ntmps37
  go_wp2
  have hz : (wordsC (leN (s.data.toList.take 0))).toArray = #[Value.int .u64 0, .int .u64 0, .int .u64 0, .int .u64 0, .int .u64 0, .int .u64 0, .int .u64 0, .int .u64 0, .int .u64 0, .int .u64 0, .int .u64 0, .int .u64 0, .int .u64 0, .int .u64 0, .int .u64 0, .int .u64 0] := by
    rw [List.take_zero, show leN [] = 0 from rfl, words_zero]; rfl
  rw [← hz]
  have a0 : Arr ((w.alloc (.cells (wordsC (leN (s.data.toList.take 0))).toArray 57)).alloc (.cells (wordsC (leN (s.data.toList.take 0))).toArray 57)) w.heap.size (leN (s.data.toList.take 0)) := Blk.keep0 (Blk.mk w _ _) (gb_alloc _ _ _)
  have a1 : Arr ((w.alloc (.cells (wordsC (leN (s.data.toList.take 0))).toArray 57)).alloc (.cells (wordsC (leN (s.data.toList.take 0))).toArray 57)) (w.heap.size + 1) (leN (s.data.toList.take 0)) := by
    have := Blk.mk (w.alloc (.cells (wordsC (leN (s.data.toList.take 0))).toArray 57)) 57 (wordsC (leN (s.data.toList.take 0))).toArray
    rw [World.size_alloc] at this
    exact this
  have g0 : w.grownBy ((w.alloc (.cells (wordsC (leN (s.data.toList.take 0))).toArray 57)).alloc (.cells (wordsC (leN (s.data.toList.take 0))).toArray 57)) none := gb_trans (gb_alloc _ _ _) (gb_alloc _ _ _)
  generalize (w.alloc (.cells (wordsC (leN (s.data.toList.take 0))).toArray 57)).alloc (.cells (wordsC (leN (s.data.toList.take 0))).toArray 57) = W0 at a0 a1 g0 ⊢
  have a0' : ∃ M, Arr W0 w.heap.size M := ⟨_, a0⟩
  clear hz a0
  go_loopw [4, 7] (fun _ v wr => ∃ k : Nat, k ≤ s.size ∧ v = .int .i64 k ∧ Arr wr (w.heap.size + 1) (leN (s.data.toList.take k)) ∧ (∃ M, Arr wr w.heap.size M) ∧ w.grownBy wr none) (fun _ v _ => s.size - (intOf v).toNat)
  case atStart => exact ⟨0, by omega, rfl, a1, a0', g0⟩
  case round =>
    obtain ⟨k, hk, rfl, bk, ⟨M, b0⟩, hg⟩ := hrel
    clear a0' a1 g0
    by_cases hlt : k < s.size
    · have hw := bk.word (k / 8) (by omega)
      have f0 := Blk.free bk (k / 8)
      obtain ⟨sh, hsh⟩ : ∃ sh, k % 8 * 8 = sh := ⟨_, rfl⟩
      have hs2 : sh ≤ 56 := by omega
      have HSh := Lib.hid (fun W => by have := shiftOf_any k W (by omega); rw [hsh] at this; exact this : ∀ W, Calls Tryd.prog 40 #[.int .i64 (k : Nat)] W fun e w' => e = .returned (.int .i64 (sh : Nat)) ∧ W = w')
      have hlen : (s.data.toList.take k).length = k := by simp; omega
      have hsn := arr_snoc (c := s[k]) bk (by rw [hlen]; omega)
      have hvlt := shl_lt s[k] k
      rw [hlen, ← take_snocB s k hlt, hsh] at hsn
      rw [hsh] at hvlt
      have hwl := wd_lt (leN (s.data.toList.take k)) (k / 8)
      generalize wd (leN (s.data.toList.take k)) (k / 8) = x at hw hsn hwl
      have hcl : s[k].toNat < 256 := s[k].toNat_lt
      have hc1 : IntKind.u64.wrap (s[k].toNat : Int) = (s[k].toNat : Int) := by rw [IntKind.wrap_u64]; omega
      obtain ⟨v, hv⟩ : ∃ v, s[k].toNat * 2 ^ sh = v := ⟨_, rfl⟩
      rw [hv] at hvlt hsn
      have hv1 : IntKind.u64.wrap ((s[k].toNat : Int) * 2 ^ sh) = (v : Int) := by
        rw [show (s[k].toNat : Int) * 2 ^ sh = ((s[k].toNat * 2 ^ sh : Nat) : Int) from by simp, hv, IntKind.wrap_u64]; omega
      have hor : bits BinOp.or IntKind.u64 (x : Int) (v : Int) = ((x ||| v : Nat) : Int) := bits_or_u64_nat x v hwl hvlt
      have hq : IntKind.i64.wrap ((k : Int) / 8) = ((k / 8 : Nat) : Int) := by rw [show (k : Int) / 8 = ((k / 8 : Nat) : Int) from by omega]; exact IntWalk.i64_in _ (by omega)
      have HN := Lib.hid hsn
      have HGG := Lib.hid hg
      have HB := Lib.hid b0
      clear hsn bk hg hsh hv hwl hvlt b0
      go_wp2
      obtain ⟨q, hqe⟩ : ∃ q, k / 8 = q := ⟨_, rfl⟩
      have hq16 : q < 16 := by omega
      have hqi : (k : Int) / 8 = (q : Int) := by omega
      have hb2 : (q : Int) < 16 := by omega
      have hqw : IntKind.i64.wrap (q : Int) = (q : Int) := IntWalk.i64_in _ (by omega)
      rw [hqe] at hw f0 HN
      clear hqe hq
      go_region_with (go_at_call 40; (with_reducible refine (HSh.out _).mono ?_); rintro e w' ⟨rfl, rfl⟩)
      all_goals
        go_wp2
        go_roundw
        case rel => exact ⟨k + 1, by omega, by go_num, HN.out.keep0 (gb_drew _ _), ⟨_, (Blk.keep HB.out (gb_set _ _ _ _ _) (ne_some (by omega))).keep0 (gb_drew _ _)⟩, gb_step (gb_step HGG.out (gb_set _ _ _ _ _) (by omega)) (gb_weak (gb_drew _ _) (some (w.heap.size + 1))) (by omega)⟩
        case measure => simp [intOf]; omega
    · obtain rfl : k = s.size := by omega
      have hall : s.data.toList.take s.size = s.data.toList := List.take_of_length_le (by simp)
      rw [hall] at bk
      have hl := bk.load
      have HB := Lib.hid b0
      have HK := Lib.hid bk
      have HGG := Lib.hid hg
      clear hall bk b0 hg
      go_wp2_with (first
        | (refine wpList_load_at rfl 57 (.tmp 3) rfl ⟨w.heap.size + 1, 0, none⟩ rfl _ hl ?_)
        | (refine wpList_store_row rfl 57 (.tmp 2) (.tmp 24) rfl w.heap.size (wordsC (leN s.data.toList)).toArray rfl rfl 57 _ HB.out (words_info _) (by simp [wordsC_length]) (words_one _) ?_))
      exact bodyPost_ret (results_cell_row rfl _ _ w.heap.size 57 _ (0, 0) _ rfl (arr_setRow HB.out) Tryd.underlying57 rfl (words_info _)) rfl ⟨rfl, gb_step HGG.out (gb_setRow _ _ _) (Nat.le_refl _)⟩
end Go.Proofs.YtaihcbkdbdhihaaDoor
