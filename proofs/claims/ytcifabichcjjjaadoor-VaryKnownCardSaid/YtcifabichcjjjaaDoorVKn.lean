/-
  What VaryKnown answers, over this seat's translation: true; condition: the variable errors.errorType holds its type's handle.
-/
import Derived.Test.YtcifabichcjjjaaDoorVKr
import Derived.Test.YtcifabichcjjjaaDoorVKm
import Derived.Test.YtcifabichcjjjaaDoorVOn
import Derived.Test.YtcifabichcjjjaaDoorVRep
import Derived.Test.YtcifabichcjjjaaDoorVPuts
namespace Go.Proofs.YtcifabichcjjjaaDoor
open Go.RowKit

def ManyRel (w : World) (v1 v2 : Value) (wr : World) : Prop :=
  ∃ k : Nat, k ≤ 33 ∧ v2 = .int .i64 ((k + 1 : Nat) : Int) ∧ wr.ownsRow w.heap.size 29 4 v1 (manyF k).length (fcells (manyF k)) ∧ w.grownBy wr none

def kdsK (am : Addr) (cm : Nat) (S : ByteArray) : List Kd := [.row [] 0,
  .val (.slice (some am) 33 cm),
  .fs ((manyF 33).take 32),
  .row ((manyF 33).take 32) 0,
  .val (.slice (some am) 33 cm),
  .row (manyF 33) 4,
  .val (.agg #[.int .i64 0, .bool false, .int .u64 0, .string ⟨#[]⟩]),
  .fs [⟨0, false, 0, ⟨#[]⟩⟩],
  .row [⟨0, false, 0, ⟨#[]⟩⟩] 2,
  .val (.agg #[.int .i64 64, .bool false, .int .u64 0, .string ⟨#[]⟩]),
  .fs [⟨64, false, 0, ⟨#[]⟩⟩],
  .row [⟨64, false, 0, ⟨#[]⟩⟩] 2,
  .val (.agg #[.int .i64 (-1), .bool false, .int .u64 0, .string ⟨#[]⟩]),
  .fs [⟨(-1), false, 0, ⟨#[]⟩⟩],
  .row [⟨(-1), false, 0, ⟨#[]⟩⟩] 2,
  .val (.agg #[.int .i64 1, .bool false, .int .u64 0, .string ⟨#[97]⟩]),
  .fs [⟨1, false, 0, ⟨#[97]⟩⟩],
  .row [⟨1, false, 0, ⟨#[97]⟩⟩] 2,
  .val (.agg #[.int .i64 1, .bool true, .int .u64 1, .string ⟨#[]⟩]),
  .fs [⟨1, true, 1, ⟨#[]⟩⟩],
  .row [⟨1, true, 1, ⟨#[]⟩⟩] 2,
  .val (.agg #[.int .i64 2, .bool false, .int .u64 1, .string ⟨#[]⟩]),
  .val (.agg #[.int .i64 2, .bool false, .int .u64 1, .string ⟨#[]⟩]),
  .fs [⟨2, false, 1, ⟨#[]⟩⟩, ⟨2, false, 1, ⟨#[]⟩⟩],
  .row [⟨2, false, 1, ⟨#[]⟩⟩, ⟨2, false, 1, ⟨#[]⟩⟩] 7,
  .val (.string S),
  .val (.agg #[.int .i64 1, .bool true, .int .u64 0, .string S]),
  .fs [⟨1, true, 0, S⟩],
  .row [⟨1, true, 0, S⟩] 4,
  .val (.string S),
  .val (.string (S.extract 1 S.size)),
  .val (.agg #[.int .i64 1, .bool true, .int .u64 0, .string (S.extract 1 S.size)]),
  .fs [⟨1, true, 0, (S.extract 1 S.size)⟩],
  .row [⟨1, true, 0, (S.extract 1 S.size)⟩] 0,
  .val (.agg #[.int .i64 1, .bool false, .int .u64 18446744073709551615, .string ⟨#[]⟩]),
  .fs [⟨1, false, 18446744073709551615, ⟨#[]⟩⟩],
  .row [⟨1, false, 18446744073709551615, ⟨#[]⟩⟩] 0,
  .tab (rowsK S),
  .val (.int .i64 12),
  .val (.int .i64 0)]
theorem rowsK_length (S : ByteArray) : (rowsK S).length = 12 := rfl
theorem repeat_x (w : World) : ∃ S : ByteArray, S.size = 2001 ∧ Calls Tryd.prog 21 #[.string ⟨#[120]⟩, .int .i64 2001] w fun e w' => e = .returned (.string S) ∧ w.grownBy w' none := by
  refine ⟨⟨(Lib.repeatL (⟨#[120]⟩ : ByteArray).data.toList 2001).toArray⟩, by simp [ByteArray.size, Lib.repeatL_length], ?_⟩
  exact (Tryd.strings_Repeat ⟨#[120]⟩ 2001 w (by omega) (by decide)).mono fun e w' h => ⟨h.1, gb_of_below h.2⟩

/-- What the first 32 fields are laid as. -/
def bytes32 : ByteArray := ⟨(putS ((manyF 33).take 32)).1.toArray⟩
theorem put32 : (putS ((manyF 33).take 32)).2 = 0 := by decide +kernel
theorem bytes32_size : bytes32.size = 96 := by decide +kernel
theorem read33 : readS (bytes32 ++ (⟨#[66, 0]⟩ : ByteArray)).data.toList = .error (4, 96) := by
  have h : readAs (bytes32 ++ (⟨#[66, 0]⟩ : ByteArray)).data.toList 4 96 = true := by
    have e : (bytes32 ++ (⟨#[66, 0]⟩ : ByteArray)).data.toList = (putS ((manyF 33).take 32)).1 ++ [66, 0] := by simp [bytes32]
    rw [e]; decide +kernel
  rcases read_as h with ⟨h1, _⟩ | ⟨_, h2⟩
  · exact absurd h1 (by decide)
  · exact h2
theorem size5 {B : ByteArray} (h : B.size = 96) : (B ++ (⟨#[66, 0]⟩ : ByteArray)).size ≤ 1000000 := by
  rw [ByteArray.size_append, h]; decide
theorem ft_keep0 {w w' : World} {b c p : Nat} (h : Ft w b c p) (g : w.grownBy w' none) : Ft w' b c p := Blk.keep0 h g
theorem told_long (a : Nat) (w : World) (hd : Hd w) (hf : Ft w a 4 96) :
    Calls Tryd.prog 17 #[.iface 69 (.pointer (some ⟨a, 0, none⟩)), .agg #[.int .i64 4, .int .i64 96]] w fun e w' => e = .returned (.bool true) ∧ w.grownBy w' none :=
  told_fault a 4 96 w hd hf rfl
theorem find7_any (v : Value) (w : World) (hv : Fs w v (manyF 33)) :
    Calls Tryd.prog 11 #[v, .int .i64 7] w fun e w' => e = .returned (.tuple #[.agg #[.int .i64 7, .bool false, .int .u64 7, .string ⟨#[]⟩], .bool true]) ∧ w.grownBy w' none :=
  find_as v (manyF 33) 7 7 false true 7 ⟨#[]⟩ w hv (by rw [manyF_length]; decide) (by kernel_rfl) (by decide +kernel)
theorem find34_any (v : Value) (w : World) (hv : Fs w v (manyF 33)) :
    Calls Tryd.prog 11 #[v, .int .i64 34] w fun e w' => e = .returned (.tuple #[.agg #[.int .i64 0, .bool false, .int .u64 0, .string ⟨#[]⟩], .bool false]) ∧ w.grownBy w' none :=
  find_as v (manyF 33) 34 0 false false 0 ⟨#[]⟩ w hv (by rw [manyF_length]; decide) (by kernel_rfl) (by decide +kernel)
theorem many_cut {w : World} {am : Addr} {cm : Nat} (h : Fs w (.slice (some am) 33 cm) (manyF 33)) : Fs w (.slice (some am) 32 cm) ((manyF 33).take 32) := by
  obtain ⟨ao, cap, hv, h2, h3, h4⟩ := h
  rw [manyF_length] at hv
  injection hv with e1 e2 e3
  subst e1 e3
  exact Fs.cut 32 (by rw [manyF_length]; decide) h2 h3 h4
/-- The cells of the texts' table. -/
def textCells : Array Value := #[Value.string ⟨#[]⟩, .int .i64 0, .int .i64 0, Value.string ⟨#[0]⟩, .int .i64 2, .int .i64 0, Value.string ⟨#[1, 0]⟩, .int .i64 2, .int .i64 0, Value.string ⟨#[128, 0]⟩, .int .i64 2, .int .i64 0, Value.string ⟨#[2]⟩, .int .i64 3, .int .i64 0, Value.string ⟨#[2, 9]⟩, .int .i64 5, .int .i64 0, Value.string ⟨#[2, 2, 1]⟩, .int .i64 3, .int .i64 0, Value.string ⟨#[2, 0, 2, 0]⟩, .int .i64 7, .int .i64 2, Value.string ⟨#[2, 0, 3, 0]⟩, .int .i64 7, .int .i64 2, Value.string ⟨#[3, 1, 5, 97]⟩, .int .i64 3, .int .i64 0, Value.string ⟨#[3, 2, 7, 209]⟩, .int .i64 4, .int .i64 0, Value.string ⟨#[3, 8, 255, 255, 255, 255, 255, 255, 255, 255]⟩, .int .i64 4, .int .i64 0, Value.string ⟨#[2, 8, 255, 255, 255, 255, 255, 255, 255, 255]⟩, .int .i64 0, .int .i64 0, Value.string ⟨#[2, 8, 0, 255, 255, 255, 255, 255, 255, 255]⟩, .int .i64 5, .int .i64 0, Value.string ⟨#[2, 0, 4, 1]⟩, .int .i64 3, .int .i64 2, Value.string ⟨#[5, 0, 127, 0]⟩, .int .i64 0, .int .i64 0]
theorem texts_cells (k : Nat) (h : k < 16) : textCells[k * 3]? = some (.string (textsK[k]'h).1) ∧ textCells[k * 3 + 1]? = some (.int .i64 ((textsK[k]'h).2.1 : Int)) ∧ textCells[k * 3 + 2]? = some (.int .i64 ((textsK[k]'h).2.2 : Int)) := by
  rcases (show k = 0 ∨ k = 1 ∨ k = 2 ∨ k = 3 ∨ k = 4 ∨ k = 5 ∨ k = 6 ∨ k = 7 ∨ k = 8 ∨ k = 9 ∨ k = 10 ∨ k = 11 ∨ k = 12 ∨ k = 13 ∨ k = 14 ∨ k = 15 by omega) with rfl | rfl | rfl | rfl | rfl | rfl | rfl | rfl | rfl | rfl | rfl | rfl | rfl | rfl | rfl | rfl <;> exact ⟨rfl, rfl, rfl⟩
theorem texts_rows {W : World} {b : Nat} {tb : Addr} (h : Blk W b 57 textCells) (htb : tb = ⟨b, 0, none⟩) (k : Nat) (hk : k < 16) :
    ∃ (s : ByteArray) (c p : Nat), W.cell? (tb.add (k * 3)) = some (.string s) ∧ W.cell? ⟨(tb.add (k * 3)).block, (tb.add (k * 3)).off + 1, none⟩ = some (.int .i64 c) ∧ W.cell? ⟨(tb.add (k * 3)).block, (tb.add (k * 3)).off + 2, none⟩ = some (.int .i64 p) ∧ s.size ≤ 1000000 ∧ ((c = 0 ∧ ∃ m, readS s.data.toList = .ok m) ∨ (c ≠ 0 ∧ readS s.data.toList = .error (c, p))) := by
  obtain ⟨e0, e1, e2⟩ := texts_cells k hk
  have hm := List.all_eq_true.1 textsK_all _ (List.getElem_mem (l := textsK) hk)
  rw [Bool.and_eq_true, decide_eq_true_eq] at hm
  refine ⟨_, _, _, ?_, ?_, ?_, hm.2, read_as hm.1⟩
  · have := h.cell _ e0
    rw [htb]; unfold Addr.add
    split
    · rename_i h0; rw [show k * 3 = 0 by omega] at this; exact this
    · simpa using this
  · have := h.cell _ e1
    rw [htb]; unfold Addr.add
    split
    · rename_i h0; rw [show k * 3 + 1 = 0 + 1 by omega] at this; exact this
    · simpa using this
  · have := h.cell _ e2
    rw [htb]; unfold Addr.add
    split
    · rename_i h0; rw [show k * 3 + 2 = 0 + 2 by omega] at this; exact this
    · simpa using this

set_option maxRecDepth 100000 in
set_option maxHeartbeats 4000000 in
theorem known_walk (w : World) (hd : Hd w) :
    Calls Tryd.prog 7 #[] w fun e w' => e = .returned (.bool true) ∧ w.grownBy w' none := by
  go_enter Tryd.func7, Tryd.ntmps7
  go_wp2_with fail
  ((with_reducible refine (works_any _ hd).mono ?_); rintro e w1 ⟨rfl, g1⟩)
  obtain ⟨i0, hi, hz0, hz1, hz2⟩ := info_parts Tryd.infoF
  go_wp2
  go_loopw [1, 2] (fun v1 v2 wr => ManyRel w1 v1 v2 wr) (fun _ i _ => 34 - (intOf i).toNat)
  case atStart => exact ⟨0, by omega, rfl, World.ownsRow_nil _ _ _ _, gb_refl _ _⟩
  case round =>
    obtain ⟨k, hk, rfl, hown, hg⟩ := hrel
    by_cases hlt : k < 33
    · have hk1 : ((k + 1 : Nat) : Int) ≤ 33 := by omega
      have hml := manyF_length k
      have HML := Lib.hid hml
      have hw64 : IntKind.u64.wrap ((k + 1 : Nat) : Int) = ((k + 1 : Nat) : Int) := by simp only [IntKind.wrap, IntKind.bits, IntKind.signed]; simp; omega
      clear hml
      obtain ⟨q, hq⟩ : ∃ q : Nat, q = k + 1 := ⟨_, rfl⟩
      have HQ := Lib.hid hq
      rw [← hq] at hk1 hw64 ⊢
      clear hq
      go_wp2_with (at_builtin; go_must (refine wpList_append_own _ rfl _ _ 22 rfl w1.heap.size 29 i0 _ 4 40 Tryd.underlying22 hi hz0 hz1 hz2 rfl (by decide) _ _ _ rfl (hown.alloc _) ⟨wr.heap.size, 0, none⟩ 1 1 (Fd.cells ⟨(q : Int), false, q, ⟨#[]⟩⟩) rfl rfl (cells_new wr ⟨(q : Int), false, q, ⟨#[]⟩⟩ 29) (cells_one _) (by have := HML.out; unfold maxLen; omega) (by have := HML.out; omega) (by have := hg.size; simp; omega) ?_; intro v3 w3 own3 g3 _))
      have hRel : ManyRel w1 v3 (.int .i64 ((q + 1 : Nat) : Int)) w3 := by
        refine ⟨k + 1, by omega, by rw [HQ.out], owns_cast own3 (by rw [manyF_succ, List.length_append]; rfl) (by rw [manyF_succ, fcells_append, HQ.out]; rfl), gb_own2 (gb_trans hg (gb_alloc _ _ _)) (hown.alloc _) (Nat.le_refl _) g3⟩
      clear own3 g3 hown hw64
      go_wp2
      go_roundw
      case rel => exact hRel
      case measure => simp [intOf]; omega
    · obtain rfl : k = 33 := by omega
      have hF := Fs.of_owns hown
      clear hown
      obtain ⟨ao, cm, hv, hcm, hnil, hcell⟩ := hF
      cases ao with
      | none => have := (hnil rfl).1; rw [manyF_length] at this; omega
      | some am =>
      rw [manyF_length] at hv hcm
      subst hv
      have hFm : Fs wr (.slice (some am) 33 cm) (manyF 33) := ⟨some am, cm, by rw [manyF_length], by rw [manyF_length]; exact hcm, hnil, hcell⟩
      clear hnil hcell
      go_wp2_with fail
      obtain ⟨S, hSz, hrep⟩ := repeat_x wr
      ((with_reducible refine hrep.mono ?_); rintro e w2 ⟨rfl, g2⟩)
      clear hrep
      have hFm2 := hFm.keep0 g2
      replace g2 := gb_trans hg g2
      clear hFm hg
      go_wp2_with fail
      refine wp_region_any (by kernel_rfl) ?_
      have hFm3 : Fs { w2 with drawn := w2.drawn + 1 } (.slice (some am) 33 cm) (manyF 33) := hFm2
      refine region_kds _ _ 36 40 (kdsK am cm S) (fun a w => a.tmps.getD 1 undef = .slice (some am) 33 cm ∧ a.tmps.getD 3 undef = .string S ∧ Fs w (.slice (some am) 33 cm) (manyF 33)) rfl (by simp) (hops_of (by kernel_rfl)) ?hC ?hstep ?hend
      case hC =>
        intro a w hout hw
        exact ⟨hout 1 (Or.inl (by omega)), hout 3 (Or.inl (by omega)), hFm3.keep0 hw⟩
      case hstep =>
        refine each_cons 0 1 rfl ?_ ?_
        · rintro w a hdep ⟨h1, h3, hFw⟩ K hK
          refine op_build rfl [(0, .slice none 0 0), (1, .int .i64 0)] (by simp only [List.map_toArray, List.map_cons, List.map_nil, Act.eval]) #[.slice none 0 0, .int .i64 0] (by kernel_rfl) (hK _ _ ⟨_, rfl, Fs.nil _⟩ (gb_refl _ _))
        refine each_cons 1 2 rfl ?_ ?_
        · rintro w a hdep ⟨h1, h3, hFw⟩ K hK
          exact op_move rfl (hK _ _ h1 (gb_refl _ _))
        refine each_cons 2 3 rfl ?_ ?_
        · rintro w a hdep ⟨h1, h3, hFw⟩ K hK
          exact st_cut (l := manyF 33) 32 rfl (by rw [manyF_length]; omega) (by rw [manyF_length]; exact (hdep ⟨1, .data⟩ (by simp) rfl)) (by rw [manyF_length]; exact hFw) hK
        refine each_cons 3 4 rfl ?_ ?_
        · rintro w a hdep ⟨h1, h3, hFw⟩ K hK
          exact st_row (l := ((manyF 33).take 32)) rfl (hdep ⟨2, .data⟩ (by simp) rfl) hK
        refine each_cons 4 5 rfl ?_ ?_
        · rintro w a hdep ⟨h1, h3, hFw⟩ K hK
          exact op_move rfl (hK _ _ h1 (gb_refl _ _))
        refine each_cons 5 6 rfl ?_ ?_
        · rintro w a hdep ⟨h1, h3, hFw⟩ K hK
          exact st_row (l := (manyF 33)) rfl (by have h := (hdep ⟨4, .data⟩ (by simp) rfl); rw [show a.tmps.getD 40 undef = _ from h]; exact hFw) hK
        refine each_cons 6 7 rfl ?_ ?_
        · rintro w a hdep ⟨h1, h3, hFw⟩ K hK
          exact op_build rfl [] (by simp) #[.int .i64 0, .bool false, .int .u64 0, .string ⟨#[]⟩] (by kernel_rfl) (hK _ _ rfl (gb_refl _ _))
        refine each_cons 7 8 rfl ?_ ?_
        · rintro w a hdep ⟨h1, h3, hFw⟩ K hK
          exact st_one ⟨0, false, 0, ⟨#[]⟩⟩ rfl (hdep ⟨6, .data⟩ (by simp) rfl) hK
        refine each_cons 8 9 rfl ?_ ?_
        · rintro w a hdep ⟨h1, h3, hFw⟩ K hK
          exact st_row (l := [⟨0, false, 0, ⟨#[]⟩⟩]) rfl (hdep ⟨7, .data⟩ (by simp) rfl) hK
        refine each_cons 9 10 rfl ?_ ?_
        · rintro w a hdep ⟨h1, h3, hFw⟩ K hK
          exact op_build rfl [(0, .int .i64 64)] (by simp only [List.map_toArray, List.map_cons, List.map_nil, Act.eval]) #[.int .i64 64, .bool false, .int .u64 0, .string ⟨#[]⟩] (by kernel_rfl) (hK _ _ rfl (gb_refl _ _))
        refine each_cons 10 11 rfl ?_ ?_
        · rintro w a hdep ⟨h1, h3, hFw⟩ K hK
          exact st_one ⟨64, false, 0, ⟨#[]⟩⟩ rfl (hdep ⟨9, .data⟩ (by simp) rfl) hK
        refine each_cons 11 12 rfl ?_ ?_
        · rintro w a hdep ⟨h1, h3, hFw⟩ K hK
          exact st_row (l := [⟨64, false, 0, ⟨#[]⟩⟩]) rfl (hdep ⟨10, .data⟩ (by simp) rfl) hK
        refine each_cons 12 13 rfl ?_ ?_
        · rintro w a hdep ⟨h1, h3, hFw⟩ K hK
          exact op_build rfl [(0, .int .i64 (-1))] (by simp only [List.map_toArray, List.map_cons, List.map_nil, Act.eval]) #[.int .i64 (-1), .bool false, .int .u64 0, .string ⟨#[]⟩] (by kernel_rfl) (hK _ _ rfl (gb_refl _ _))
        refine each_cons 13 14 rfl ?_ ?_
        · rintro w a hdep ⟨h1, h3, hFw⟩ K hK
          exact st_one ⟨(-1), false, 0, ⟨#[]⟩⟩ rfl (hdep ⟨12, .data⟩ (by simp) rfl) hK
        refine each_cons 14 15 rfl ?_ ?_
        · rintro w a hdep ⟨h1, h3, hFw⟩ K hK
          exact st_row (l := [⟨(-1), false, 0, ⟨#[]⟩⟩]) rfl (hdep ⟨13, .data⟩ (by simp) rfl) hK
        refine each_cons 15 16 rfl ?_ ?_
        · rintro w a hdep ⟨h1, h3, hFw⟩ K hK
          exact op_build rfl [(0, .int .i64 1), (3, .string ⟨#[97]⟩)] (by simp only [List.map_toArray, List.map_cons, List.map_nil, Act.eval]) #[.int .i64 1, .bool false, .int .u64 0, .string ⟨#[97]⟩] (by kernel_rfl) (hK _ _ rfl (gb_refl _ _))
        refine each_cons 16 17 rfl ?_ ?_
        · rintro w a hdep ⟨h1, h3, hFw⟩ K hK
          exact st_one ⟨1, false, 0, ⟨#[97]⟩⟩ rfl (hdep ⟨15, .data⟩ (by simp) rfl) hK
        refine each_cons 17 18 rfl ?_ ?_
        · rintro w a hdep ⟨h1, h3, hFw⟩ K hK
          exact st_row (l := [⟨1, false, 0, ⟨#[97]⟩⟩]) rfl (hdep ⟨16, .data⟩ (by simp) rfl) hK
        refine each_cons 18 19 rfl ?_ ?_
        · rintro w a hdep ⟨h1, h3, hFw⟩ K hK
          exact op_build rfl [(0, .int .i64 1), (1, .bool true), (2, .int .u64 1)] (by simp only [List.map_toArray, List.map_cons, List.map_nil, Act.eval]) #[.int .i64 1, .bool true, .int .u64 1, .string ⟨#[]⟩] (by kernel_rfl) (hK _ _ rfl (gb_refl _ _))
        refine each_cons 19 20 rfl ?_ ?_
        · rintro w a hdep ⟨h1, h3, hFw⟩ K hK
          exact st_one ⟨1, true, 1, ⟨#[]⟩⟩ rfl (hdep ⟨18, .data⟩ (by simp) rfl) hK
        refine each_cons 20 21 rfl ?_ ?_
        · rintro w a hdep ⟨h1, h3, hFw⟩ K hK
          exact st_row (l := [⟨1, true, 1, ⟨#[]⟩⟩]) rfl (hdep ⟨19, .data⟩ (by simp) rfl) hK
        refine each_cons 21 22 rfl ?_ ?_
        · rintro w a hdep ⟨h1, h3, hFw⟩ K hK
          exact op_build rfl [(0, .int .i64 2), (2, .int .u64 1)] (by simp only [List.map_toArray, List.map_cons, List.map_nil, Act.eval]) #[.int .i64 2, .bool false, .int .u64 1, .string ⟨#[]⟩] (by kernel_rfl) (hK _ _ rfl (gb_refl _ _))
        refine each_cons 22 23 rfl ?_ ?_
        · rintro w a hdep ⟨h1, h3, hFw⟩ K hK
          exact op_build rfl [(0, .int .i64 2), (2, .int .u64 1)] (by simp only [List.map_toArray, List.map_cons, List.map_nil, Act.eval]) #[.int .i64 2, .bool false, .int .u64 1, .string ⟨#[]⟩] (by kernel_rfl) (hK _ _ rfl (gb_refl _ _))
        refine each_cons 23 24 rfl ?_ ?_
        · rintro w a hdep ⟨h1, h3, hFw⟩ K hK
          exact st_two ⟨2, false, 1, ⟨#[]⟩⟩ ⟨2, false, 1, ⟨#[]⟩⟩ rfl (hdep ⟨21, .data⟩ (by simp) rfl) (hdep ⟨22, .data⟩ (by simp) rfl) hK
        refine each_cons 24 25 rfl ?_ ?_
        · rintro w a hdep ⟨h1, h3, hFw⟩ K hK
          exact st_row (l := [⟨2, false, 1, ⟨#[]⟩⟩, ⟨2, false, 1, ⟨#[]⟩⟩]) rfl (hdep ⟨23, .data⟩ (by simp) rfl) hK
        refine each_cons 25 26 rfl ?_ ?_
        · rintro w a hdep ⟨h1, h3, hFw⟩ K hK
          exact op_move rfl (hK _ _ h3 (gb_refl _ _))
        refine each_cons 26 27 rfl ?_ ?_
        · rintro w a hdep ⟨h1, h3, hFw⟩ K hK
          exact op_build rfl [(0, .int .i64 1), (1, .bool true), (3, .string S)] (by have h := (hdep ⟨25, .data⟩ (by simp) rfl); simp only [List.map_toArray, List.map_cons, List.map_nil, Act.eval]; rw [show a.tmps.getD 61 undef = _ from h]) #[.int .i64 1, .bool true, .int .u64 0, .string S] (by kernel_rfl) (hK _ _ rfl (gb_refl _ _))
        refine each_cons 27 28 rfl ?_ ?_
        · rintro w a hdep ⟨h1, h3, hFw⟩ K hK
          exact st_one ⟨1, true, 0, S⟩ rfl (hdep ⟨26, .data⟩ (by simp) rfl) hK
        refine each_cons 28 29 rfl ?_ ?_
        · rintro w a hdep ⟨h1, h3, hFw⟩ K hK
          exact st_row (l := [⟨1, true, 0, S⟩]) rfl (hdep ⟨27, .data⟩ (by simp) rfl) hK
        refine each_cons 29 30 rfl ?_ ?_
        · rintro w a hdep ⟨h1, h3, hFw⟩ K hK
          exact op_move rfl (hK _ _ h3 (gb_refl _ _))
        refine each_cons 30 31 rfl ?_ ?_
        · rintro w a hdep ⟨h1, h3, hFw⟩ K hK
          exact st_from (S := S) 1 rfl (by omega) (hdep ⟨29, .data⟩ (by simp) rfl) hK
        refine each_cons 31 32 rfl ?_ ?_
        · rintro w a hdep ⟨h1, h3, hFw⟩ K hK
          exact op_build rfl [(0, .int .i64 1), (1, .bool true), (3, .string (S.extract 1 S.size))] (by have h := (hdep ⟨30, .data⟩ (by simp) rfl); simp only [List.map_toArray, List.map_cons, List.map_nil, Act.eval]; rw [show a.tmps.getD 66 undef = _ from h]) #[.int .i64 1, .bool true, .int .u64 0, .string (S.extract 1 S.size)] (by kernel_rfl) (hK _ _ rfl (gb_refl _ _))
        refine each_cons 32 33 rfl ?_ ?_
        · rintro w a hdep ⟨h1, h3, hFw⟩ K hK
          exact st_one ⟨1, true, 0, (S.extract 1 S.size)⟩ rfl (hdep ⟨31, .data⟩ (by simp) rfl) hK
        refine each_cons 33 34 rfl ?_ ?_
        · rintro w a hdep ⟨h1, h3, hFw⟩ K hK
          exact st_row (l := [⟨1, true, 0, (S.extract 1 S.size)⟩]) rfl (hdep ⟨32, .data⟩ (by simp) rfl) hK
        refine each_cons 34 35 rfl ?_ ?_
        · rintro w a hdep ⟨h1, h3, hFw⟩ K hK
          exact op_build rfl [(0, .int .i64 1), (2, .int .u64 18446744073709551615)] (by simp only [List.map_toArray, List.map_cons, List.map_nil, Act.eval]) #[.int .i64 1, .bool false, .int .u64 18446744073709551615, .string ⟨#[]⟩] (by kernel_rfl) (hK _ _ rfl (gb_refl _ _))
        refine each_cons 35 36 rfl ?_ ?_
        · rintro w a hdep ⟨h1, h3, hFw⟩ K hK
          exact st_one ⟨1, false, 18446744073709551615, ⟨#[]⟩⟩ rfl (hdep ⟨34, .data⟩ (by simp) rfl) hK
        refine each_cons 36 37 rfl ?_ ?_
        · rintro w a hdep ⟨h1, h3, hFw⟩ K hK
          exact st_row (l := [⟨1, false, 18446744073709551615, ⟨#[]⟩⟩]) rfl (hdep ⟨35, .data⟩ (by simp) rfl) hK
        refine each_cons 37 38 rfl ?_ ?_
        · rintro w a hdep ⟨h1, h3, hFw⟩ K hK
          obtain ⟨s0, e0, f0⟩ := hdep ⟨0, .data⟩ (by simp) rfl
          replace e0 : a.tmps.getD 36 undef = _ := e0
          obtain ⟨s1, e1, f1⟩ := hdep ⟨3, .data⟩ (by simp) rfl
          replace e1 : a.tmps.getD 39 undef = _ := e1
          obtain ⟨s2, e2, f2⟩ := hdep ⟨5, .data⟩ (by simp) rfl
          replace e2 : a.tmps.getD 41 undef = _ := e2
          obtain ⟨s3, e3, f3⟩ := hdep ⟨8, .data⟩ (by simp) rfl
          replace e3 : a.tmps.getD 44 undef = _ := e3
          obtain ⟨s4, e4, f4⟩ := hdep ⟨11, .data⟩ (by simp) rfl
          replace e4 : a.tmps.getD 47 undef = _ := e4
          obtain ⟨s5, e5, f5⟩ := hdep ⟨14, .data⟩ (by simp) rfl
          replace e5 : a.tmps.getD 50 undef = _ := e5
          obtain ⟨s6, e6, f6⟩ := hdep ⟨17, .data⟩ (by simp) rfl
          replace e6 : a.tmps.getD 53 undef = _ := e6
          obtain ⟨s7, e7, f7⟩ := hdep ⟨20, .data⟩ (by simp) rfl
          replace e7 : a.tmps.getD 56 undef = _ := e7
          obtain ⟨s8, e8, f8⟩ := hdep ⟨24, .data⟩ (by simp) rfl
          replace e8 : a.tmps.getD 60 undef = _ := e8
          obtain ⟨s9, e9, f9⟩ := hdep ⟨28, .data⟩ (by simp) rfl
          replace e9 : a.tmps.getD 64 undef = _ := e9
          obtain ⟨s10, e10, f10⟩ := hdep ⟨33, .data⟩ (by simp) rfl
          replace e10 : a.tmps.getD 69 undef = _ := e10
          obtain ⟨s11, e11, f11⟩ := hdep ⟨36, .data⟩ (by simp) rfl
          replace e11 : a.tmps.getD 72 undef = _ := e11
          refine op_buildSlice (e := 55) rfl (by kernel_rfl) [(0, .agg #[s0, .int .i64 0]), (1, .agg #[s1, .int .i64 0]), (2, .agg #[s2, .int .i64 4]), (3, .agg #[s3, .int .i64 2]), (4, .agg #[s4, .int .i64 2]), (5, .agg #[s5, .int .i64 2]), (6, .agg #[s6, .int .i64 2]), (7, .agg #[s7, .int .i64 2]), (8, .agg #[s8, .int .i64 7]), (9, .agg #[s9, .int .i64 4]), (10, .agg #[s10, .int .i64 0]), (11, .agg #[s11, .int .i64 0])] (by simp only [List.map_toArray, List.map_cons, List.map_nil, Act.eval, e0, e1, e2, e3, e4, e5, e6, e7, e8, e9, e10, e11]) #[s0, .int .i64 0, s1, .int .i64 0, s2, .int .i64 4, s3, .int .i64 2, s4, .int .i64 2, s5, .int .i64 2, s6, .int .i64 2, s7, .int .i64 2, s8, .int .i64 7, s9, .int .i64 4, s10, .int .i64 0, s11, .int .i64 0] (by kernel_rfl) (hK _ _ ⟨_, _, rfl, Blk.mk _ _ _, ?_⟩ (gb_alloc _ _ _))
          exact rows_at ⟨⟨rfl, f0.keep0 (gb_alloc _ _ _)⟩, ⟨rfl, f1.keep0 (gb_alloc _ _ _)⟩, ⟨rfl, f2.keep0 (gb_alloc _ _ _)⟩, ⟨rfl, f3.keep0 (gb_alloc _ _ _)⟩, ⟨rfl, f4.keep0 (gb_alloc _ _ _)⟩, ⟨rfl, f5.keep0 (gb_alloc _ _ _)⟩, ⟨rfl, f6.keep0 (gb_alloc _ _ _)⟩, ⟨rfl, f7.keep0 (gb_alloc _ _ _)⟩, ⟨rfl, f8.keep0 (gb_alloc _ _ _)⟩, ⟨rfl, f9.keep0 (gb_alloc _ _ _)⟩, ⟨rfl, f10.keep0 (gb_alloc _ _ _)⟩, ⟨rfl, f11.keep0 (gb_alloc _ _ _)⟩, trivial⟩
        refine each_cons 38 39 rfl ?_ ?_
        · rintro w a hdep ⟨h1, h3, hFw⟩ K hK
          obtain ⟨b, vs, e0, _⟩ := hdep ⟨37, .data⟩ (by simp) rfl
          replace e0 : a.tmps.getD 73 undef = _ := e0
          exact op_len rfl e0 (hK _ _ rfl (gb_refl _ _))
        refine each_cons 39 40 rfl ?_ ?_
        · rintro w a hdep ⟨h1, h3, hFw⟩ K hK
          exact op_move rfl (hK _ _ rfl (gb_refl _ _))
        exact each_nil _
      case hend =>
        intro a wq hsz hdf hout hall hw
        obtain ⟨tm, df⟩ := a
        have ht : tm = List.toArray [_, _, _, _, _, _, _, _, _, _, _, _, _, _, _, _, _, _, _, _, _, _, _, _, _, _, _, _, _, _, _, _, _, _, _, _, tm.getD (36 + 0) undef, tm.getD (36 + 1) undef, tm.getD (36 + 2) undef, tm.getD (36 + 3) undef, tm.getD (36 + 4) undef, tm.getD (36 + 5) undef, tm.getD (36 + 6) undef, tm.getD (36 + 7) undef, tm.getD (36 + 8) undef, tm.getD (36 + 9) undef, tm.getD (36 + 10) undef, tm.getD (36 + 11) undef, tm.getD (36 + 12) undef, tm.getD (36 + 13) undef, tm.getD (36 + 14) undef, tm.getD (36 + 15) undef, tm.getD (36 + 16) undef, tm.getD (36 + 17) undef, tm.getD (36 + 18) undef, tm.getD (36 + 19) undef, tm.getD (36 + 20) undef, tm.getD (36 + 21) undef, tm.getD (36 + 22) undef, tm.getD (36 + 23) undef, tm.getD (36 + 24) undef, tm.getD (36 + 25) undef, tm.getD (36 + 26) undef, tm.getD (36 + 27) undef, tm.getD (36 + 28) undef, tm.getD (36 + 29) undef, tm.getD (36 + 30) undef, tm.getD (36 + 31) undef, tm.getD (36 + 32) undef, tm.getD (36 + 33) undef, tm.getD (36 + 34) undef, tm.getD (36 + 35) undef, tm.getD (36 + 36) undef, tm.getD (36 + 37) undef, tm.getD (36 + 38) undef, tm.getD (36 + 39) undef, _, _, _, _, _, _, _, _, _, _, _, _, _, _, _, _, _, _, _, _, _, _, _, _, _, _, _, _, _, _, _, _, _, _, _, _, _, _, _, _, _, _, _, _, _, _, _, _, _, _, _, _, _, _, _, _, _, _, _, _, _, _, _, _, _, _, _, _, _, _, _, _, _, _, _, _, _, _, _, _, _, _, _, _, _, _, _, _, _, _, _, _, _, _, _, _, _, _, _, _, _, _, _, _] := arr_lit tm _ 36 40 hsz (by simp) hout
        obtain ⟨b, vs, e37, hblk, hrows⟩ := hall 37 (by omega)
        have e38 : tm.getD (36 + 38) undef = .int .i64 12 := hall 38 (by omega)
        have e39 : tm.getD (36 + 39) undef = .int .i64 0 := hall 39 (by omega)
        rw [e37, e38, e39] at ht
        clear hall hout hsz e37 e38 e39
        generalize tm.getD (36 + 0) undef = v36 at ht
        generalize tm.getD (36 + 1) undef = v37 at ht
        generalize tm.getD (36 + 2) undef = v38 at ht
        generalize tm.getD (36 + 3) undef = v39 at ht
        generalize tm.getD (36 + 4) undef = v40 at ht
        generalize tm.getD (36 + 5) undef = v41 at ht
        generalize tm.getD (36 + 6) undef = v42 at ht
        generalize tm.getD (36 + 7) undef = v43 at ht
        generalize tm.getD (36 + 8) undef = v44 at ht
        generalize tm.getD (36 + 9) undef = v45 at ht
        generalize tm.getD (36 + 10) undef = v46 at ht
        generalize tm.getD (36 + 11) undef = v47 at ht
        generalize tm.getD (36 + 12) undef = v48 at ht
        generalize tm.getD (36 + 13) undef = v49 at ht
        generalize tm.getD (36 + 14) undef = v50 at ht
        generalize tm.getD (36 + 15) undef = v51 at ht
        generalize tm.getD (36 + 16) undef = v52 at ht
        generalize tm.getD (36 + 17) undef = v53 at ht
        generalize tm.getD (36 + 18) undef = v54 at ht
        generalize tm.getD (36 + 19) undef = v55 at ht
        generalize tm.getD (36 + 20) undef = v56 at ht
        generalize tm.getD (36 + 21) undef = v57 at ht
        generalize tm.getD (36 + 22) undef = v58 at ht
        generalize tm.getD (36 + 23) undef = v59 at ht
        generalize tm.getD (36 + 24) undef = v60 at ht
        generalize tm.getD (36 + 25) undef = v61 at ht
        generalize tm.getD (36 + 26) undef = v62 at ht
        generalize tm.getD (36 + 27) undef = v63 at ht
        generalize tm.getD (36 + 28) undef = v64 at ht
        generalize tm.getD (36 + 29) undef = v65 at ht
        generalize tm.getD (36 + 30) undef = v66 at ht
        generalize tm.getD (36 + 31) undef = v67 at ht
        generalize tm.getD (36 + 32) undef = v68 at ht
        generalize tm.getD (36 + 33) undef = v69 at ht
        generalize tm.getD (36 + 34) undef = v70 at ht
        generalize tm.getD (36 + 35) undef = v71 at ht
        generalize tm.getD (36 + 36) undef = v72 at ht
        replace hdf : df = [] := hdf
        simp only [] at ht
        subst ht hdf
        go_wp2_with fail
        obtain ⟨ab, hab⟩ : ∃ ab : Addr, ab = ⟨b, 0, none⟩ := ⟨_, rfl⟩
        have hrow : ∀ k, k < 12 → ∃ (s : Value) (l : List Fd) (n : Nat), wq.cell? (ab.add (k * 2)) = some s ∧ wq.cell? ⟨(ab.add (k * 2)).block, (ab.add (k * 2)).off + 1, none⟩ = some (.int .i64 n) ∧ Fs wq s l ∧ (∀ f ∈ l, f.ok) ∧ l.length ≤ 1000000 ∧ (putS l).2 = n := by
          intro k hk
          have hj : (rowsK S)[k]? = some ((rowsK S)[k]'(by rw [rowsK_length]; exact hk)) := List.getElem?_eq_getElem _
          obtain ⟨s, e1, e2, e3⟩ := hrows k _ _ hj
          obtain ⟨o1, o2, n, o3, o4⟩ := rowsK_put S hSz k _ _ hj
          refine ⟨s, _, n, ?_, ?_, e3, o1, o2, o3⟩
          · have := hblk.cell _ e1
            rw [hab]
            unfold Addr.add
            split
            · rename_i h0
              rw [show 2 * k = 0 by omega] at this
              exact this
            · rw [Nat.mul_comm 2 k] at this
              simpa using this
          · have := hblk.cell _ e2
            rw [o4] at this
            rw [hab]
            unfold Addr.add
            split
            · rename_i h0
              rw [show 2 * k + 1 = 0 + 1 by omega] at this
              exact this
            · rw [Nat.mul_comm 2 k] at this
              simpa using this
        have HR := Lib.hid hrow
        clear hrow
        rw [← hab]
        clear hrows hblk hab
        go_loopw [75] (fun v wr => ∃ k : Nat, k ≤ 12 ∧ v = .int .i64 ((k : Nat) : Int) ∧ wq.grownBy wr none) (fun i _ => 12 - (intOf i).toNat)
        case atStart => exact ⟨0, by omega, rfl, gb_refl _ _⟩
        case round =>
          obtain ⟨k, hk, rfl, hgr⟩ := hrel
          by_cases hlt : k < 12
          · obtain ⟨s, l, n, c0, c1, hF, hok, hl, hput⟩ := HR.out k hlt
            have hF0 := hF
            obtain ⟨so, sc, rfl, _⟩ := hF0
            have c0' := hgr.cell c0 (by simp)
            have c1' := hgr.cell c1 (by simp)
            have hF1 := (hF.keep0 hgr).keep0 (gb_alloc wr (.cells #[.slice so l.length sc, .int .i64 (n : Int)] 55) none)
            have hB := Blk.mk wr 55 #[.slice so l.length sc, .int .i64 (n : Int)]
            have hk12 : (k : Int) < 12 := by omega
            clear c0 c1 hF
            go_wp2_with fail
            ((with_reducible refine (put_as _ l _ n _ hF1 hok hl rfl hput).mono ?_); rintro e w3 ⟨rfl, g3⟩)
            have d1 := (hB.keep0 g3).cell 1 rfl
            go_wp2_with fail
            go_roundw
            case rel => exact ⟨k + 1, by omega, by go_num, gb_trans (gb_trans hgr (gb_alloc _ _ _)) g3⟩
            case measure => simp [intOf]; omega
          · obtain rfl : k = 12 := by omega
            go_wp2_with fail
            have gT := gb_alloc wr (.cells textCells 57) none
            have hT := Blk.mk wr 57 textCells
            obtain ⟨W0, hW0⟩ : ∃ W0 : World, W0 = wr.alloc (.cells textCells 57) := ⟨_, rfl⟩
            rw [← hW0] at gT hT
            rw [show wr.alloc (.cells #[Value.string ⟨#[]⟩, .int .i64 0, .int .i64 0, Value.string ⟨#[0]⟩, .int .i64 2, .int .i64 0, Value.string ⟨#[1, 0]⟩, .int .i64 2, .int .i64 0, Value.string ⟨#[128, 0]⟩, .int .i64 2, .int .i64 0, Value.string ⟨#[2]⟩, .int .i64 3, .int .i64 0, Value.string ⟨#[2, 9]⟩, .int .i64 5, .int .i64 0, Value.string ⟨#[2, 2, 1]⟩, .int .i64 3, .int .i64 0, Value.string ⟨#[2, 0, 2, 0]⟩, .int .i64 7, .int .i64 2, Value.string ⟨#[2, 0, 3, 0]⟩, .int .i64 7, .int .i64 2, Value.string ⟨#[3, 1, 5, 97]⟩, .int .i64 3, .int .i64 0, Value.string ⟨#[3, 2, 7, 209]⟩, .int .i64 4, .int .i64 0, Value.string ⟨#[3, 8, 255, 255, 255, 255, 255, 255, 255, 255]⟩, .int .i64 4, .int .i64 0, Value.string ⟨#[2, 8, 255, 255, 255, 255, 255, 255, 255, 255]⟩, .int .i64 0, .int .i64 0, Value.string ⟨#[2, 8, 0, 255, 255, 255, 255, 255, 255, 255]⟩, .int .i64 5, .int .i64 0, Value.string ⟨#[2, 0, 4, 1]⟩, .int .i64 3, .int .i64 2, Value.string ⟨#[5, 0, 127, 0]⟩, .int .i64 0, .int .i64 0] 57) = W0 from hW0.symm]
            clear hW0
            replace gT := gb_trans hgr gT
            obtain ⟨tb, htb⟩ : ∃ tb : Addr, tb = ⟨wr.heap.size, 0, none⟩ := ⟨_, rfl⟩
            have HT := Lib.hid (texts_rows hT htb)
            rw [← htb]
            clear hT htb HR hgr
            have gW : w.grownBy W0 none := gb_trans (gb_trans (gb_trans g1 g2) (⟨rfl, rfl, rfl, Nat.le_refl _, fun _ _ _ => rfl⟩ : w2.grownBy { w2 with drawn := w2.drawn + 1 } none)) (gb_trans hw gT)
            have hdW := hd.keep0 gW
            go_loopw [111] (fun v wr => ∃ k : Nat, k ≤ 16 ∧ v = .int .i64 ((k : Nat) : Int) ∧ W0.grownBy wr none) (fun i _ => 16 - (intOf i).toNat)
            case atStart => exact ⟨0, by omega, rfl, gb_refl _ _⟩
            case round =>
              obtain ⟨k, hk, rfl, hgr⟩ := hrel
              by_cases hlt : k < 16
              · obtain ⟨s, c, p, c0, c1, c2, hsz, hcase⟩ := HT.out k hlt
                have c0' := hgr.cell c0 (by simp)
                have c1' := hgr.cell c1 (by simp)
                have c2' := hgr.cell c2 (by simp)
                have hk16 : (k : Int) < 16 := by omega
                clear c0 c1 c2
                have hdr := hdW.keep0 hgr
                rcases hcase with ⟨rfl, m, hr⟩ | ⟨hc0, hr⟩
                · have c1'' : wr.cell? ⟨(tb.add (k * 3)).block, (tb.add (k * 3)).off + 1, none⟩ = some (.int .i64 0) := c1'
                  clear c1'
                  have hB := Blk.mk wr 57 #[.string s, .int .i64 0, .int .i64 (p : Int)]
                  go_wp2_with fail
                  ((with_reducible refine (read_ok s m _ hsz hr).mono ?_); rintro e w3 ⟨v, rfl, hF, g3⟩)
                  have d1 := (hB.keep0 g3).cell 1 rfl
                  have d2 := (hB.keep0 g3).cell 2 rfl
                  clear hr
                  go_wp2_with fail
                  ((with_reducible refine (told_nil p _).mono ?_); rintro e w4 ⟨rfl, g4⟩)
                  have e1 := ((hB.keep0 g3).keep0 g4).cell 1 rfl
                  have gE : W0.grownBy w4 none := gb_trans (gb_trans (gb_trans hgr (gb_alloc _ _ _)) g3) g4
                  clear hB d1 d2 hgr g3 g4
                  go_wp2_with fail
                  go_roundw
                  case rel => (repeat apply Exists.intro); exact ⟨⟨k + 1, by omega, rfl, gE⟩, rfl⟩
                  case measure => simp [intOf]; omega
                · have hcz : ((c : Int) == 0) = false := beq_eq_false_iff_ne.2 (by omega)
                  have hB := Blk.mk wr 57 #[.string s, .int .i64 (c : Int), .int .i64 (p : Int)]
                  go_wp2_with fail
                  ((with_reducible refine (read_bad s c p _ hsz hr).mono ?_); rintro e w3 ⟨b3, rfl, hF, g3⟩)
                  have d1 := (hB.keep0 g3).cell 1 rfl
                  have d2 := (hB.keep0 g3).cell 2 rfl
                  clear hr
                  go_wp2_with fail
                  ((with_reducible refine (told_fault b3 c p _ ((hdr.keep0 (gb_alloc _ _ none)).keep0 g3) hF hcz).mono ?_); rintro e w4 ⟨rfl, g4⟩)
                  have e1 := ((hB.keep0 g3).keep0 g4).cell 1 rfl
                  have gE : W0.grownBy w4 none := gb_trans (gb_trans (gb_trans hgr (gb_alloc _ _ _)) g3) g4
                  have hcz2 : ((c : Int) != 0) = true := by rw [bne_iff_ne]; omega
                  clear hB d1 d2 hgr g3 g4 hF hcz
                  go_wp2_with fail
                  go_roundw
                  case rel => (repeat apply Exists.intro); exact ⟨⟨k + 1, by omega, rfl, gE⟩, rfl⟩
                  case measure => simp [intOf]; omega
              · obtain rfl : k = 16 := by omega
                go_wp2_with fail
                have gR : w.grownBy wr none := gb_trans gW hgr
                have hdr := hdW.keep0 hgr
                have hFr := ((hFm3.keep0 hw).keep0 gT).keep0 hgr
                have hFc := many_cut hFr
                clear hgr HT
                ((with_reducible refine (put_as _ ((manyF 33).take 32) bytes32 0 _ hFc (fun f hf => manyF_ok 33 (by decide) f (List.mem_of_mem_take hf)) (by simp only [List.length_take, manyF_length]; omega) rfl put32).mono ?_); rintro e w5 ⟨rfl, g5⟩)
                have hb5 := bytes32_size
                generalize hB5 : bytes32 = B5 at hb5
                have HB5 := Lib.hid hB5
                clear hB5
                go_wp2_with fail
                ((with_reducible refine (read_bad (B5 ++ ⟨#[66, 0]⟩) 4 96 _ (size5 hb5) (by rw [← HB5.out]; exact read33)).mono ?_); rintro e w6 ⟨b6, rfl, hF6, g6⟩)
                go_wp2_with fail
                ((with_reducible refine (find7_any _ _ ((hFr.keep0 g5).keep0 g6)).mono ?_); rintro e w7 ⟨rfl, g7⟩)
                have hB7 := Blk.mk w7 29 #[.int .i64 7, .bool false, .int .u64 7, .string ⟨#[]⟩]
                have a7 := gb_alloc w7 (.cells #[.int .i64 7, .bool false, .int .u64 7, .string ⟨#[]⟩] 29) none
                go_wp2_with fail
                ((with_reducible refine (find34_any _ _ ((((hFr.keep0 g5).keep0 g6).keep0 g7).keep0 a7)).mono ?_); rintro e w8 ⟨rfl, g8⟩)
                have a8 := gb_alloc w8 (.cells #[.int .i64 0, .bool false, .int .u64 0, .string ⟨#[]⟩] 29) none
                go_wp2_with fail
                ((with_reducible refine (told_long b6 _ (((((((hdr.keep0 g5).keep0 g6).keep0 g7).keep0 a7).keep0 g8).keep0 a8)) (ft_keep0 (ft_keep0 (ft_keep0 (ft_keep0 hF6 g7) a7) g8) a8)).mono ?_); rintro e w9 ⟨rfl, g9⟩)
                have d9 := (((hB7.keep0 g8).keep0 a8).keep0 g9).cell 2 rfl
                go_wp2_with fail
                go_ret
                exact ⟨rfl, gb_trans gR (gb_trans g5 (gb_trans g6 (gb_trans g7 (gb_trans a7 (gb_trans g8 (gb_trans a8 g9))))))⟩
end Go.Proofs.YtcifabichcjjjaaDoor
