/-
  FixedBack's walk, over this seat's translation: whatever things and cut: it returns true, and nothing that was there has turned; conditions: the variable errors.errorType holds its type's handle; the slice reads as things.
-/
import Derived.Test.YtcoedakbagbenaaDoorBm
import Derived.Deep.DeepCutAuto
import Derived.Lib.SmallJoins
namespace Go.Proofs.YtcoedakbagbenaaDoor
open Go.RowKit

theorem blk_mk' (w : World) (t : TypeId) (vs : Array Value) (n : Nat) (hn : w.heap.size = n) : Blk (w.alloc (.cells vs t)) n t vs := hn ▸ Blk.mk w t vs
theorem nat_mod (c L : Nat) : ((c % (L + 1) : Nat) : Int) = (c : Int) % ((L : Int) + 1) := by
  rw [show ((L : Int) + 1) = ((L + 1 : Nat) : Int) from by omega]; exact Int.natCast_emod c (L + 1)
theorem mod_le (c T L : Nat) (h : (T : Int) = (c : Int) % ((L : Int) + 1)) : T ≤ L := by
  have h1 := Int.emod_lt_of_pos (c : Int) (show (0 : Int) < (L : Int) + 1 by omega)
  omega
theorem conv_take (W : World) (bo : Option Addr) (cap T : Nat) (l : List UInt8) (h : Bs W (.slice bo l.length cap) l) (hT : T ≤ l.length) : (convert 49 9 (.slice bo T cap)).run Tryd.prog W = .ok (.string ⟨(l.take T).toArray⟩) W := by
  refine conv_bs W _ _ ?_
  obtain ⟨ao, c, e1, h2, h3, h4⟩ := h
  simp only [Value.slice.injEq] at e1
  obtain ⟨rfl, _, rfl⟩ := e1
  have e : (l.take T).length = T := by rw [List.length_take]; omega
  refine ⟨bo, cap, by rw [e], by omega, fun h => ⟨by have := (h3 h).1; omega, (h3 h).2⟩, ?_⟩
  intro a h j u hj
  refine h4 a h j u ?_
  simp only [bcells, List.map_take] at hj ⊢
  rw [List.getElem?_take] at hj
  split at hj
  · exact hj
  · cases hj
theorem owns_keepT {w w' : World} {B R : Nat} {e t : TypeId} {vs : Array Value} {v : Value} {n : Nat} {xs : List Value} (h : w.ownsRow B e 1 v n xs) (hb : Blk w R t vs) (ht : t ≠ e) (g : w.grownBy w' (some R)) : w'.ownsRow B e 1 v n xs := by
  refine h.kept g ?_
  rcases h.2 with ⟨rfl, _⟩ | ⟨g2, c2, cur2, rfl, _, h2, _⟩
  · exact Or.inl rfl
  · refine Or.inr ?_
    intro e'
    have e2 : g2 = R := by simpa [Value.ownBlock] using e'
    subst e2
    unfold Blk at hb
    rw [hb] at h2
    cases h2
    exact ht rfl
/-- Both readers stand at their beginnings; where things begin is kept. -/
def Setup (w : World) (U V : ByteArray) (p : Value) (n : Nat) (xs : List Value) (A R0 R1 : Nat) (W : World) : Prop :=
  Blk W A 60 #[.pointer (some ⟨R0, 0, none⟩), .pointer (some ⟨R1, 0, none⟩)] ∧ Rd W R0 U 0 ∧ Rd W R1 V 0 ∧ R0 ≠ R1 ∧ A ≠ R0 ∧ A ≠ R1 ∧ w.heap.size ≤ A ∧ w.heap.size ≤ R0 ∧ w.heap.size ≤ R1 ∧ W.ownsRow w.heap.size 3 1 p n xs ∧ w.grownBy W none

/-- Between two rounds of the outer loop. -/
def Mid (w : World) (U V : ByteArray) (p : Value) (n : Nat) (xs : List Value) (A R0 R1 j : Nat) (W : World) : Prop :=
  (j = 0 → Rd W R0 U 0) ∧ (j ≤ 1 → Rd W R1 V 0) ∧ Blk W A 60 #[.pointer (some ⟨R0, 0, none⟩), .pointer (some ⟨R1, 0, none⟩)] ∧ W.ownsRow w.heap.size 3 1 p n xs ∧ w.grownBy W none
/-- Between two rounds of the inner loop. -/
def Inn (w : World) (X V : ByteArray) (p : Value) (n : Nat) (xs : List Value) (A R R0 R1 j P : Nat) (W : World) : Prop :=
  Rd W R X P ∧ (j = 0 → Rd W R1 V 0) ∧ Blk W A 60 #[.pointer (some ⟨R0, 0, none⟩), .pointer (some ⟨R1, 0, none⟩)] ∧ W.ownsRow w.heap.size 3 1 p n xs ∧ w.grownBy W none
theorem plc_get (wd nn : Nat → Nat) (ss : Nat → ByteArray) (k q : Nat) (h : q < k) : (plc wd nn ss k)[q]? = some (.int .i64 ((pre wd nn ss q).length : Int)) := by
  simp [plc, List.getElem?_range h]
theorem left_en (b : Nat) (s : ByteArray) (p en : Nat) (w : World) (h : Rd w b s p) (hp : p ≤ en) (he : s.size = en) (hs : en ≤ 1000000) :
    Calls Tryd.prog 15 #[.pointer (some ⟨b, 0, none⟩)] w fun e w' => e = .returned (.int .i64 ((en : Int) - p)) ∧ w.grownBy w' none := by
  subst he
  exact (left_any b s p w h hp (by omega)).mono fun _ _ h => ⟨h.1, h.2.1⟩
theorem sh1 (a : Nat) : IntKind.u64.wrap ((a : Int) * 72057594037927936) / 72057594037927936 = (a : Int) % 256 := by
  simp only [IntKind.wrap, IntKind.bits, IntKind.signed]; simp; omega
theorem sh2 (a : Nat) : IntKind.u64.wrap ((a : Int) * 281474976710656) / 281474976710656 = (a : Int) % 65536 := by
  simp only [IntKind.wrap, IntKind.bits, IntKind.signed]; simp; omega
theorem sh4 (a : Nat) : IntKind.u64.wrap ((a : Int) * 4294967296) / 4294967296 = (a : Int) % 4294967296 := by
  simp only [IntKind.wrap, IntKind.bits, IntKind.signed]; simp; omega
theorem next_text (wd nn : Nat → Nat) (ss : Nat → ByteArray) (q : Nat) (h : wd q % 5 = 4) : (pre wd nn ss (q + 1)).length = (pre wd nn ss q).length + 1 + min (ss q).size 255 := by
  simp only [pre, enc1, if_pos h, List.length_append, digits_length, List.length_take, Array.length_toList, ByteArray.size_data]; omega
theorem next_num (wd nn : Nat → Nat) (ss : Nat → ByteArray) (q j : Nat) (h : wd q % 5 = j) (h4 : j ≠ 4) : (pre wd nn ss (q + 1)).length = (pre wd nn ss q).length + 2 ^ j := by
  rw [pre, List.length_append, ← enc1_num (wd q) (nn q) j (ss q) h h4, digits_length]
theorem pick_reader (w W : World) (U V : ByteArray) (l : List UInt8) (A R0 R1 j T : Nat) (hj : j < 2) (hT : T ≤ l.length) (hU : U = ⟨(l.take l.length).toArray⟩) (hV : V = ⟨(l.take T).toArray⟩) (n01 : R0 ≠ R1) (nA0 : A ≠ R0) (nA1 : A ≠ R1) (b0 : w.heap.size ≤ R0) (b1 : w.heap.size ≤ R1)
    (m0 : j = 0 → Rd W R0 U 0) (m1 : j ≤ 1 → Rd W R1 V 0) (mA : Blk W A 60 #[.pointer (some ⟨R0, 0, none⟩), .pointer (some ⟨R1, 0, none⟩)]) :
    ∃ (R : Nat) (X : ByteArray) (en : Nat), W.cell? ⟨A, j, none⟩ = some (.pointer (some ⟨R, 0, none⟩)) ∧ Rd W R X 0 ∧ en ≤ l.length ∧ X = ⟨(l.take en).toArray⟩ ∧ (j = 0 → R ≠ R1) ∧ w.heap.size ≤ R ∧ A ≠ R ∧ (en = if j = 1 then T else l.length) := by
  by_cases h : j = 1
  · subst h
    exact ⟨R1, V, T, Blk.cell mA 1 rfl, m1 (by omega), hT, hV, fun e => by omega, b1, nA1, rfl⟩
  · have h0 : j = 0 := by omega
    subst h0
    exact ⟨R0, U, l.length, Blk.cell mA 0 rfl, m0 rfl, Nat.le_refl _, hU, fun _ => n01, b0, nA0, rfl⟩
theorem setup_set {w W : World} {U V : ByteArray} {p : Value} {n : Nat} {xs : List Value} (A R0 R1 : Nat) (kb : Blk W A 60 #[.pointer none, .pointer none]) (r1 : Rd W R0 U 0) (r2 : Rd W R1 V 0) (n1 : R0 ≠ R1) (n2 : A ≠ R0) (n3 : A ≠ R1) (h1 : w.heap.size ≤ A) (h2 : w.heap.size ≤ R0) (h3 : w.heap.size ≤ R1) (op : W.ownsRow w.heap.size 3 1 p n xs) (g : w.grownBy W none) :
    Setup w U V p n xs A R0 R1 ((W.setCell ⟨A, 0, none⟩ (.pointer (some ⟨R0, 0, none⟩))).setCell ⟨A, 1, none⟩ (.pointer (some ⟨R1, 0, none⟩))) :=
  ⟨Blk.set (Blk.set kb 0 _) 1 _, (r1.keep (gb_set _ _ _ _ _) (ne_some (by omega))).keep (gb_set _ _ _ _ _) (ne_some (by omega)), (r2.keep (gb_set _ _ _ _ _) (ne_some (by omega))).keep (gb_set _ _ _ _ _) (ne_some (by omega)), n1, n2, n3, h1, h2, h3,
    owns_keepT (owns_keepT op kb (by decide) (gb_set _ _ _ _ _)) (Blk.set kb 0 _) (by decide) (gb_set _ _ _ _ _), gb_step (gb_step g (gb_set _ _ _ _ _) h1) (gb_set _ _ _ _ _) h1⟩
theorem setup_last {w W : World} {U V : ByteArray} {p : Value} {n : Nat} {xs : List Value} (R0 R1 : Nat) (r1 : Rd W R0 U 0) (r2 : Rd W R1 V 0) (n1 : R0 ≠ R1) (h2 : w.heap.size ≤ R0) (h3 : w.heap.size ≤ R1) (op : W.ownsRow w.heap.size 3 1 p n xs) (g : w.grownBy W none) :
    Setup w U V p n xs W.heap.size R0 R1 (W.alloc (.cells #[.pointer (some ⟨R0, 0, none⟩), .pointer (some ⟨R1, 0, none⟩)] 60)) :=
  ⟨Blk.mk _ _ _, r1.keep0 (gb_alloc _ _ _), r2.keep0 (gb_alloc _ _ _), n1, by have := r1.lt; omega, by have := r2.lt; omega, g.size, h2, h3, owns_keep0 op (gb_alloc _ _ _), gb_trans g (gb_alloc _ _ _)⟩
set_option maxRecDepth 100000 in
set_option maxHeartbeats 4000000 in
theorem back_walk (ao : Option Addr) (a : Addr) (len cap : Nat) (wd nn : Nat → Nat) (ss : Nat → ByteArray) (cut : Nat) (w : World) (hd : Hd w) (hao : 0 < len → ao = some a) (hlen : len ≤ cap) (hcap : cap ≤ 9223372036854775807) (hcut : cut < 65536)
    (h0 : ∀ i, i < len → w.cell? (a.add (i * 3)) = some (.int .u8 (wd i)) ∧ w.cell? ⟨(a.add (i * 3)).block, (a.add (i * 3)).off + 1, none⟩ = some (.int .u64 (nn i)) ∧ w.cell? ⟨(a.add (i * 3)).block, (a.add (i * 3)).off + 2, none⟩ = some (.string (ss i)))
    (hr : ∀ i, i < len → wd i < 256 ∧ nn i < 18446744073709551616 ∧ (ss i).size ≤ 9223372036854775807) :
    Calls Tryd.prog 5 #[.slice ao len cap, .int .u16 cut] w fun e w' => e = .returned (.bool true) ∧ w.grownBy w' none := by
  have HC := Lib.hid h0
  have HR := Lib.hid hr
  have HA := Lib.hid hao
  clear h0 hr hao
  go_enter Tryd.func5, Tryd.ntmps5
  go_wp2_with (go_at_call 18; go_must (refine (works_any _ hd).mono ?_; rintro e w0 ⟨rfl, g0⟩))
  obtain ⟨m, hm⟩ : ∃ m : Nat, (m : Int) = min (len : Int) 30 := ⟨min len 30, by omega⟩
  have hm1 : m ≤ 30 := by omega
  have hm2 : m ≤ len := by omega
  rw [← hm]
  clear hm
  simp only [Int.toNat_natCast]
  go_loopw [5, 6, 7] (fun b p i wr => ∃ k : Nat, k ≤ m ∧ i = .int .i64 k ∧ wr.ownsRow w.heap.size 5 1 b (pre wd nn ss k).length (bcells (pre wd nn ss k)) ∧ wr.ownsRow w.heap.size 3 1 p k (plc wd nn ss k) ∧ w.grownBy wr none) (fun _ _ i _ => 30 - (intOf i).toNat)
  case atStart => exact ⟨0, by omega, rfl, World.ownsRow_nil _ _ _ _, World.ownsRow_nil _ _ _ _, g0⟩
  case round =>
    obtain ⟨k, hk, rfl, ob, op, hg⟩ := hrel
    by_cases hlt : k < m
    · have hao := HA.out (by omega)
      subst hao
      clear HA
      obtain ⟨wk1, wk2, wk3⟩ := HR.out k (by omega)
      obtain ⟨bo, bcap, rfl, hb1, hb2, hb3⟩ := Bs.of_owns ob
      clear hb2 hb3
      have HB := Lib.hid (pre_len wd nn ss k)
      have hL : (pre wd nn ss k).length ≤ 7680 := by have := HB.out; omega
      by_cases h5 : wd k % 5 = 4
      · as_aux_lemma =>
          have t5 : (((wd k : Int) % 5) == 4) = true := by simp; omega
          go_wp2_with (at_builtin; go_must (refine app_int w wr _ _ _ _ (.slice bo (pre wd nn ss k).length bcap) _ _ _ _ rfl rfl rfl rfl op ob hg (by omega) ?_; intro p1 w1 op1 ob1 g1; have d0 := g1.cell (HC.out k (by omega)).1 (by simp)))
          have d2 := (gb_trans g1 (gb_drew w1 none)).cell (HC.out k (by omega)).2.2 (by simp)
          have op2 := owns_keep0 op1 (gb_drew _ none)
          have ob2 := Bs.keep0 (Bs.of_owns ob1) (gb_drew _ none)
          have g2 := gb_trans g1 (gb_drew _ none)
          have HS := cut_size (ss k)
          have hsl := slice_to Tryd.prog 9 Tryd.underlying9 (ss k)
          clear HC HR ob op ob1 op1 g1 hg
          go_region_held3 (fun w' => w'.cell? ⟨(a.add (k * 3)).block, (a.add (k * 3)).off + 2, none⟩ = some (.string (ss k))) (first | exact d2 | exact d3) (first | (go_at_call 21; go_must (refine (ptext_ok _ (pre wd nn ss k) _ _ ob2 HS (by omega)).mono ?_; rintro e w2 ⟨v2, rfl, o2, g3⟩; have d3 := g3.cell d2 (by simp))))
          all_goals
            go_wp2
            go_roundw
            case rel => exact ⟨k + 1, by omega, by go_num, owns_base (owns_cast o2 (by rw [enc1_text (wd k) (nn k) (ss k) _ h5 rfl]; rfl) (by rw [enc1_text (wd k) (nn k) (ss k) _ h5 rfl]; rfl)) g2.size, owns_cast (owns_keep0 op2 g3) rfl (plc_succ wd nn ss k).symm, gb_trans g2 g3⟩
            case measure => simp [intOf]; omega
      by_cases h6 : wd k % 5 = 0
      · as_aux_lemma =>
          have t5 : (((wd k : Int) % 5) == 4) = false := by simp; omega
          have e1 : (wd k : Int) % 5 = 0 := by omega
          have e2 : (wd k : Int).tmod 5 = 0 := by rw [Int.tmod_eq_emod_of_nonneg (by omega)]; omega
          go_wp2_with (at_builtin; go_must (refine app_int w wr _ _ _ _ (.slice bo (pre wd nn ss k).length bcap) _ _ _ _ rfl rfl rfl rfl op ob hg (by omega) ?_; intro p1 w1 op1 ob1 g1; have d0 := g1.cell (HC.out k (by omega)).1 (by simp)))
          have d1 := (gb_trans g1 (gb_drew w1 none)).cell (HC.out k (by omega)).2.1 (by simp)
          have d2 := (gb_trans g1 (gb_drew w1 none)).cell (HC.out k (by omega)).1 (by simp)
          have op2 := owns_keep0 op1 (gb_drew _ none)
          have ob2 := Bs.keep0 (Bs.of_owns ob1) (gb_drew _ none)
          have g2 := gb_trans g1 (gb_drew _ none)
          clear HC HR ob op ob1 op1 g1 hg
          go_region_held3 (fun w' => w'.cell? ⟨(a.add (k * 3)).block, (a.add (k * 3)).off + 1, none⟩ = some (.int .u64 (nn k)) ∧ w'.cell? (a.add (k * 3)) = some (.int .u8 (wd k))) (first | exact ⟨d1, d2⟩ | exact ⟨d3, d4⟩) (first | (go_at_call 19; go_must (refine (put1 _ (pre wd nn ss k) (nn k) _ ob2 wk2 (by omega)).mono ?_; rintro e w2 ⟨v2, rfl, o2, g3⟩; have d3 := g3.cell d1 (by simp); have d4 := g3.cell d2 (by simp))))
          all_goals
            go_wp2
            go_roundw
            case rel => exact ⟨k + 1, by omega, by go_num, owns_base (owns_cast o2 (by rw [enc1_num (wd k) (nn k) 0 (ss k) h6 (by decide)]; rfl) (by rw [enc1_num (wd k) (nn k) 0 (ss k) h6 (by decide)]; rfl)) g2.size, owns_cast (owns_keep0 op2 g3) rfl (plc_succ wd nn ss k).symm, gb_trans g2 g3⟩
            case measure => simp [intOf]; omega
      by_cases h6 : wd k % 5 = 1
      · as_aux_lemma =>
          have t5 : (((wd k : Int) % 5) == 4) = false := by simp; omega
          have e1 : (wd k : Int) % 5 = 1 := by omega
          have e2 : (wd k : Int).tmod 5 = 1 := by rw [Int.tmod_eq_emod_of_nonneg (by omega)]; omega
          go_wp2_with (at_builtin; go_must (refine app_int w wr _ _ _ _ (.slice bo (pre wd nn ss k).length bcap) _ _ _ _ rfl rfl rfl rfl op ob hg (by omega) ?_; intro p1 w1 op1 ob1 g1; have d0 := g1.cell (HC.out k (by omega)).1 (by simp)))
          have d1 := (gb_trans g1 (gb_drew w1 none)).cell (HC.out k (by omega)).2.1 (by simp)
          have d2 := (gb_trans g1 (gb_drew w1 none)).cell (HC.out k (by omega)).1 (by simp)
          have op2 := owns_keep0 op1 (gb_drew _ none)
          have ob2 := Bs.keep0 (Bs.of_owns ob1) (gb_drew _ none)
          have g2 := gb_trans g1 (gb_drew _ none)
          clear HC HR ob op ob1 op1 g1 hg
          go_region_held3 (fun w' => w'.cell? ⟨(a.add (k * 3)).block, (a.add (k * 3)).off + 1, none⟩ = some (.int .u64 (nn k)) ∧ w'.cell? (a.add (k * 3)) = some (.int .u8 (wd k))) (first | exact ⟨d1, d2⟩ | exact ⟨d3, d4⟩) (first | (go_at_call 19; go_must (refine (put2 _ (pre wd nn ss k) (nn k) _ ob2 wk2 (by omega)).mono ?_; rintro e w2 ⟨v2, rfl, o2, g3⟩; have d3 := g3.cell d1 (by simp); have d4 := g3.cell d2 (by simp))))
          all_goals
            go_wp2
            go_roundw
            case rel => exact ⟨k + 1, by omega, by go_num, owns_base (owns_cast o2 (by rw [enc1_num (wd k) (nn k) 1 (ss k) h6 (by decide)]; rfl) (by rw [enc1_num (wd k) (nn k) 1 (ss k) h6 (by decide)]; rfl)) g2.size, owns_cast (owns_keep0 op2 g3) rfl (plc_succ wd nn ss k).symm, gb_trans g2 g3⟩
            case measure => simp [intOf]; omega
      by_cases h6 : wd k % 5 = 2
      · as_aux_lemma =>
          have t5 : (((wd k : Int) % 5) == 4) = false := by simp; omega
          have e1 : (wd k : Int) % 5 = 2 := by omega
          have e2 : (wd k : Int).tmod 5 = 2 := by rw [Int.tmod_eq_emod_of_nonneg (by omega)]; omega
          go_wp2_with (at_builtin; go_must (refine app_int w wr _ _ _ _ (.slice bo (pre wd nn ss k).length bcap) _ _ _ _ rfl rfl rfl rfl op ob hg (by omega) ?_; intro p1 w1 op1 ob1 g1; have d0 := g1.cell (HC.out k (by omega)).1 (by simp)))
          have d1 := (gb_trans g1 (gb_drew w1 none)).cell (HC.out k (by omega)).2.1 (by simp)
          have d2 := (gb_trans g1 (gb_drew w1 none)).cell (HC.out k (by omega)).1 (by simp)
          have op2 := owns_keep0 op1 (gb_drew _ none)
          have ob2 := Bs.keep0 (Bs.of_owns ob1) (gb_drew _ none)
          have g2 := gb_trans g1 (gb_drew _ none)
          clear HC HR ob op ob1 op1 g1 hg
          go_region_held3 (fun w' => w'.cell? ⟨(a.add (k * 3)).block, (a.add (k * 3)).off + 1, none⟩ = some (.int .u64 (nn k)) ∧ w'.cell? (a.add (k * 3)) = some (.int .u8 (wd k))) (first | exact ⟨d1, d2⟩ | exact ⟨d3, d4⟩) (first | (go_at_call 19; go_must (refine (put4 _ (pre wd nn ss k) (nn k) _ ob2 wk2 (by omega)).mono ?_; rintro e w2 ⟨v2, rfl, o2, g3⟩; have d3 := g3.cell d1 (by simp); have d4 := g3.cell d2 (by simp))))
          all_goals
            go_wp2
            go_roundw
            case rel => exact ⟨k + 1, by omega, by go_num, owns_base (owns_cast o2 (by rw [enc1_num (wd k) (nn k) 2 (ss k) h6 (by decide)]; rfl) (by rw [enc1_num (wd k) (nn k) 2 (ss k) h6 (by decide)]; rfl)) g2.size, owns_cast (owns_keep0 op2 g3) rfl (plc_succ wd nn ss k).symm, gb_trans g2 g3⟩
            case measure => simp [intOf]; omega
      have h6 : wd k % 5 = 3 := by omega
      as_aux_lemma =>
        have t5 : (((wd k : Int) % 5) == 4) = false := by simp; omega
        have e1 : (wd k : Int) % 5 = 3 := by omega
        have e2 : (wd k : Int).tmod 5 = 3 := by rw [Int.tmod_eq_emod_of_nonneg (by omega)]; omega
        go_wp2_with (at_builtin; go_must (refine app_int w wr _ _ _ _ (.slice bo (pre wd nn ss k).length bcap) _ _ _ _ rfl rfl rfl rfl op ob hg (by omega) ?_; intro p1 w1 op1 ob1 g1; have d0 := g1.cell (HC.out k (by omega)).1 (by simp)))
        have d1 := (gb_trans g1 (gb_drew w1 none)).cell (HC.out k (by omega)).2.1 (by simp)
        have d2 := (gb_trans g1 (gb_drew w1 none)).cell (HC.out k (by omega)).1 (by simp)
        have op2 := owns_keep0 op1 (gb_drew _ none)
        have ob2 := Bs.keep0 (Bs.of_owns ob1) (gb_drew _ none)
        have g2 := gb_trans g1 (gb_drew _ none)
        clear HC HR ob op ob1 op1 g1 hg
        go_region_held3 (fun w' => w'.cell? ⟨(a.add (k * 3)).block, (a.add (k * 3)).off + 1, none⟩ = some (.int .u64 (nn k)) ∧ w'.cell? (a.add (k * 3)) = some (.int .u8 (wd k))) (first | exact ⟨d1, d2⟩ | exact ⟨d3, d4⟩) (first | (go_at_call 19; go_must (refine (put8 _ (pre wd nn ss k) (nn k) _ ob2 wk2 (by omega)).mono ?_; rintro e w2 ⟨v2, rfl, o2, g3⟩; have d3 := g3.cell d1 (by simp); have d4 := g3.cell d2 (by simp))))
        all_goals
          go_wp2
          go_roundw
          case rel => exact ⟨k + 1, by omega, by go_num, owns_base (owns_cast o2 (by rw [enc1_num (wd k) (nn k) 3 (ss k) h6 (by decide)]; rfl) (by rw [enc1_num (wd k) (nn k) 3 (ss k) h6 (by decide)]; rfl)) g2.size, owns_cast (owns_keep0 op2 g3) rfl (plc_succ wd nn ss k).symm, gb_trans g2 g3⟩
          case measure => simp [intOf]; omega
    · have hkm : k = m := by omega
      subst hkm
      obtain ⟨bo, bcap, rfl, hb1, hb2, hb3⟩ := Bs.of_owns ob
      clear hb2 hb3
      have HB := Lib.hid (pre_len wd nn ss k)
      have hL : (pre wd nn ss k).length ≤ 7680 := by have := HB.out; omega
      obtain ⟨T, hT⟩ : ∃ T : Nat, (T : Int) = (cut : Int) % ((pre wd nn ss k).length + 1) := ⟨cut % ((pre wd nn ss k).length + 1), nat_mod cut _⟩
      have hT1 : T ≤ (pre wd nn ss k).length := mod_le cut T _ hT
      have hT2 : T ≤ bcap := by omega
      obtain ⟨U, hU⟩ : ∃ U : ByteArray, U = ⟨((pre wd nn ss k).take (pre wd nn ss k).length).toArray⟩ := ⟨_, rfl⟩
      obtain ⟨V, hV⟩ : ∃ V : ByteArray, V = ⟨((pre wd nn ss k).take T).toArray⟩ := ⟨_, rfl⟩
      have b0 := Bs.keep0 (Bs.of_owns ob) (gb_drew wr none)
      have b3 := Bs.keep0 (Bs.keep0 (Bs.of_owns ob) (gb_alloc _ (.cells #[.pointer none, .pointer none] 60) none)) (gb_drew _ none)
      have CV : ∀ W, Bs W (.slice bo (pre wd nn ss k).length bcap) (pre wd nn ss k) → (convert 49 9 (.slice bo (pre wd nn ss k).length bcap)).run Tryd.prog W = .ok (.string U) W ∧ (convert 49 9 (.slice bo T bcap)).run Tryd.prog W = .ok (.string V) W := by
        intro W hW
        rw [hU, hV]
        exact ⟨conv_take _ bo bcap _ _ hW (Nat.le_refl _), conv_take _ bo bcap T _ hW hT1⟩
      have HU := Lib.hid hU
      have HV := Lib.hid hV
      clear hU hV
      go_upto_region 14 with fail
      rw [← hT]
      have HT := Lib.hid hT
      clear hT
      go_cut [9] (fun s9 wx => ∃ A R0 R1 : Nat, s9 = .pointer (some ⟨A, 0, none⟩) ∧ Setup w U V u6 k (plc wd nn ss k) A R0 R1 wx)
      case first =>
        as_aux_lemma =>
          have tok1 : True := trivial
          clear HC HR HB
          go_region_held3 (fun w' => (convert 49 9 (.slice bo (pre wd nn ss k).length bcap)).run Tryd.prog w' = .ok (.string U) w' ∧ (convert 49 9 (.slice bo T bcap)).run Tryd.prog w' = .ok (.string V) w') (first | exact CV _ b0 | exact CV _ b3 | exact CV _ bk1 | exact CV _ (bk1.keep0 (gb_alloc _ _ none)) | exact CV _ bk2 | exact CV _ (bk2.keep0 (gb_alloc _ _ none)) | exact CV _ (Bs.of_owns (owns_keepT (owns_keepT ok2 kb (by decide) (gb_set _ _ _ _ _)) (Blk.set kb 0 _) (by decide) (gb_set _ _ _ _ _)))) (first | (go_at_call 8; have _t := tok1; clear tok1 _t; go_must (refine (new_any _ _).mono ?_; rintro e w1 ⟨rfl, hw1⟩; (first | (have a1 : wr.grownBy w1 none := (by rw [hw1]; exact gb_trans (gb_drew _ _) (gb_alloc _ _ _)); have r1 : Rd w1 wr.heap.size U 0 := (by rw [hw1]; exact Blk.mk _ _ _)) | (have a1 : wr.grownBy w1 none := (by rw [hw1]; exact gb_trans (gb_trans (gb_alloc _ _ _) (gb_drew _ _)) (gb_alloc _ _ _)); have r1 : Rd w1 (wr.heap.size + 1) U 0 := (by rw [hw1]; exact blk_mk' _ _ _ _ (by simp)); have kb : Blk w1 wr.heap.size 60 #[.pointer none, .pointer none] := (by rw [hw1]; exact ((Blk.mk _ _ _).keep0 (gb_drew _ _)).keep0 (gb_alloc _ _ _)); have k0 := Blk.cell kb 0 rfl; have k1 := Blk.cell kb 1 rfl; have f0 := Blk.free kb 0; have f1 := Blk.free kb 1)); clear hw1; have bk1 := Bs.keep0 (Bs.of_owns ob) a1)) | (go_at_call 8; go_must (refine (new_any _ _).mono ?_; rintro e w2 ⟨rfl, hw2⟩; (first | (have a2 : w1.grownBy w2 none := (by rw [hw2]; exact gb_alloc _ _ _); have r2 : Rd w2 w1.heap.size V 0 := (by rw [hw2]; exact Blk.mk _ _ _); (try (replace kb := kb.keep0 a2; clear k0 k1 f0 f1; have k0 := Blk.cell kb 0 rfl; have k1 := Blk.cell kb 1 rfl; have f0 := Blk.free kb 0; have f1 := Blk.free kb 1))) | (have a2 : w1.grownBy w2 none := (by rw [hw2]; exact gb_trans (gb_alloc _ _ _) (gb_alloc _ _ _)); have r2 : Rd w2 (w1.heap.size + 1) V 0 := (by rw [hw2]; exact blk_mk' _ _ _ _ (by simp)); have kb : Blk w2 w1.heap.size 60 #[.pointer none, .pointer none] := (by rw [hw2]; exact (Blk.mk _ _ _).keep0 (gb_alloc _ _ _)); have k0 := Blk.cell kb 0 rfl; have k1 := Blk.cell kb 1 rfl; have f0 := Blk.free kb 0; have f1 := Blk.free kb 1)); clear hw2; have bk2 := bk1.keep0 a2; have ok2 := owns_keep0 (owns_keep0 ob a1) a2)))
          all_goals
            go_wp2_with fail
            go_meet
            have l1 := r1.lt
            have l2 := r2.lt
            have l3 := hg.size
            have q1 := r1.keep0 a2
            have q2 := owns_keep0 (owns_keep0 op a1) a2
            have q3 := gb_trans hg (gb_trans a1 a2)
            first | exact ⟨_, _, _, rfl, setup_last _ _ q1 r2 (by omega) (by omega) (by omega) q2 q3⟩ | exact ⟨_, _, _, rfl, setup_set w1.heap.size wr.heap.size (w1.heap.size + 1) kb q1 r2 (by omega) (by omega) (by omega) (by omega) (by omega) (by omega) q2 q3⟩ | exact ⟨_, _, _, rfl, setup_set wr.heap.size (wr.heap.size + 1) w1.heap.size kb q1 r2 (by omega) (by omega) (by omega) (by omega) (by omega) (by omega) q2 q3⟩
      case rest =>
        obtain ⟨A, R0, R1, rfl, hA, hR0, hR1, n01, nA0, nA1, bA, bR0, bR1, hop, hgS⟩ := hcut
        clear ob op hg
        go_wp2_with fail
        go_loopw [10] (fun i wx => ∃ j : Nat, j ≤ 2 ∧ i = .int .i64 j ∧ Mid w U V u6 k (plc wd nn ss k) A R0 R1 j wx) (fun i _ => 2 - (intOf i).toNat)
        case atStart => exact ⟨0, by omega, rfl, fun _ => hR0, fun _ => hR1, hA, hop, hgS⟩
        case round =>
          obtain ⟨j, hj, rfl, m0, m1, mA, mop, mg⟩ := hrel
          by_cases hj2 : j = 2
          · subst hj2
            go_wp2
            go_ret
            exact ⟨rfl, mg⟩
          · obtain ⟨R, X, en, hRc, hRd, hen, hX, hoth, hRb, hRA, hRen⟩ := pick_reader w wr U V (pre wd nn ss k) A R0 R1 j T (by omega) hT1 HU.out HV.out n01 nA0 nA1 bR0 bR1 m0 m1 mA
            have HX := Lib.hid hX
            have HE := Lib.hid hRen
            clear hX hRen m0
            have hjI : (j : Int) < 2 := by omega
            go_upto_if 102 with fail

            go_cut [12] (fun s12 wz => s12 = .int .i64 (en : Int) ∧ wz = wr)
            case first =>
              by_cases hj1 : j = 1
              · have e1 : ((j : Int) == 1) = true := by simp; omega
                have e2 : en = T := by rw [HE.out, if_pos hj1]
                go_wp2_with fail
                go_meet
                exact ⟨by rw [e2], rfl⟩
              · have e1 : ((j : Int) == 1) = false := by simp; omega
                have e2 : en = (pre wd nn ss k).length := by rw [HE.out, if_neg hj1]
                go_wp2_with fail
                go_meet
                exact ⟨by rw [e2], rfl⟩
            case rest =>
              obtain ⟨rfl, rfl⟩ := hcut
              have HXs := Lib.hid (size_X _ en X HX.out hen)
              have x1 : X.size ≤ en := by rw [HXs.out]; omega
              have x2 : en ≤ X.size := by rw [HXs.out]; omega
              clear hRc hA hR0 hR1 hop hgS hjI
              go_wp2_with fail
              go_loopw [13] (fun i wy => ∃ q : Nat, q ≤ k ∧ i = .int .i64 q ∧ (pre wd nn ss q).length ≤ en ∧ Inn w X V u6 k (plc wd nn ss k) A R R0 R1 j (pre wd nn ss q).length wy) (fun i _ => 30 - (intOf i).toNat)
              case atStart => exact ⟨0, by omega, rfl, by simp [pre], hRd, fun _ => m1 (by omega), mA, mop, mg⟩
              case round =>
                obtain ⟨q, hq, rfl, hqe, i1, i2, i3, i4, i5⟩ := hrel
                clear hRd m1 mA mop mg
                by_cases hlt : q < k
                · have hao := HA.out (by omega)
                  subst hao
                  clear HA
                  obtain ⟨wk1, wk2, wk3⟩ := HR.out q (by omega)
                  obtain ⟨c0, c1, c2⟩ := HC.out q (by omega)
                  replace c0 := i5.cell c0 (by simp)
                  replace c1 := i5.cell c1 (by simp)
                  replace c2 := i5.cell c2 (by simp)
                  obtain ⟨G, pcap, hu6⟩ := Joins.ownsRow_form i4 (by omega)
                  subst hu6
                  have pc := i4.cells (g := G) rfl q _ (plc_get wd nn ss k q hlt)
                  rw [Addr.add_lit, Nat.zero_add] at pc
                  have hqL := Lib.hid (pre_len wd nn ss q)
                  have hq1 : (pre wd nn ss q).length ≤ 7680 := by have := hqL.out; omega
                  go_upto_if 116 with fail
                  go_cut [14] (fun s14 wz => s14 = .int .i64 ((pre wd nn ss (q + 1)).length : Int) ∧ wz = wr)
                  case first =>
                    by_cases hn : q + 1 < k
                    · have pc1 := i4.cells (g := G) rfl (q + 1) _ (plc_get wd nn ss k (q + 1) hn)
                      rw [Addr.add_lit, Nat.zero_add] at pc1
                      go_wp2_with fail
                      go_meet
                      exact ⟨rfl, rfl⟩
                    · have hnk : q + 1 = k := by omega
                      have hnk2 : ¬ ((q : Int) + 1 < k) := by omega
                      go_wp2_with fail
                      go_meet
                      exact ⟨by rw [hnk], rfl⟩
                  case rest =>
                    obtain ⟨rfl, rfl⟩ := hcut
                    by_cases h5 : wd q % 5 = 4
                    · have t5 : (((wd q : Int) % 5) == 4) = true := by simp; omega
                      have hnx := Lib.hid (next_text wd nn ss q h5)
                      have hn1 : (pre wd nn ss (q + 1)).length = (pre wd nn ss q).length + 1 + min (ss q).size 255 := hnx.out
                      by_cases hok : (pre wd nn ss (q + 1)).length ≤ en
                      · as_aux_lemma =>
                          have hv := val_len wd nn ss q k en X hlt HX.out h5 (by omega)
                          have ht := text_ok R X (pre wd nn ss q).length 255 _ i1 (by decide) (by omega) (by rw [hv]; omega) (by rw [hv]; omega)
                          rw [hv, text_at wd nn ss q k en X hlt HX.out h5 (by omega), ← hn1] at ht
                          clear hn1 hv
                          have hgt : ¬ ((en : Int) < ((pre wd nn ss (q + 1)).length : Int)) := by omega
                          go_wp2_with fail
                          ((with_reducible refine ht.mono ?_); rintro e w1 ⟨rfl, r1, a1⟩)
                          clear ht
                          have g1 := gb_step i5 a1 hRb
                          have b1 := g1.cell (HC.out q (by omega)).2.1 (by simp)
                          have b2 := g1.cell (HC.out q (by omega)).2.2 (by simp)
                          have hsl := slice_to Tryd.prog 9 Tryd.underlying9 (ss q)
                          go_wp2_with fail
                          go_quiet (fail)
                          have r2 := r1.keep0 (gb_drewN _ nq none)
                          have a2 := gb_drewN w1 nq none
                          go_wp2_with (first | (go_at_call 14; go_must (refine (place_any R X (pre wd nn ss (q + 1)).length _ r2).mono ?_; rintro e w2 ⟨rfl, rfl⟩)) | (go_at_call 15; go_must (refine (left_en R X (pre wd nn ss (q + 1)).length en _ r2 hok HXs.out (by omega)).mono ?_; rintro e w3 ⟨rfl, a3⟩)))
                          go_roundw
                          case rel => exact ⟨q + 1, by omega, by go_num, hok, r2.keep0 a3, (fun e => ((i2 e).keep a1 (ne_some (Ne.symm (hoth e)))).keep0 (gb_trans a2 a3)), (i3.keep a1 (ne_some hRA)).keep0 (gb_trans a2 a3), owns_keep0 (owns_keepT i4 i1 (by decide) a1) (gb_trans a2 a3), gb_trans g1 (gb_trans a2 a3)⟩
                          case measure => simp [intOf]; omega
                      by_cases hpe : X.size ≤ (pre wd nn ss q).length
                      · as_aux_lemma =>
                          have hgt0 : en < (pre wd nn ss (q + 1)).length := by omega
                          have ht := text_end R X (pre wd nn ss q).length 255 _ i1 (by decide) (by omega) (by omega) (by omega)
                          clear hn1
                          have hgt : (en : Int) < ((pre wd nn ss (q + 1)).length : Int) := by omega
                          go_wp2_with fail
                          ((with_reducible refine ht.mono ?_); rintro e w1 ⟨fb, rfl, _, f1, a1⟩)
                          clear ht
                          go_wp2_with fail
                          have pk := (gb_trans a1 (gb_drew w1 none)).cell pc (by simp)
                          have rk := i1.keep0 (gb_trans a1 (gb_drew w1 none))
                          have fk := f1.keep0 (gb_drew w1 none)
                          have gk := gb_trans i5 (gb_trans a1 (gb_drew w1 none))
                          have hdk := hd.keep0 gk
                          clear HC HR HX HE HXs i1 i2 i3 i4 i5 c0 c1 c2 a1 f1 pc
                          go_region_held3 (fun w' => w'.cell? ⟨G, q, none⟩ = some (.int .i64 ((pre wd nn ss q).length : Int))) (exact pk) (first | (go_at_call 11; go_must (refine (law_is_fault _ 3 (pre wd nn ss q).length _ hdk fk rfl).mono ?_; rintro e w2 ⟨rfl, a2⟩; replace pk := a2.cell pk (by simp); replace rk := rk.keep0 a2; replace gk := gb_trans gk a2)) | (go_at_call 14; go_must (refine (place_any R X (pre wd nn ss q).length _ rk).mono ?_; rintro e w2 ⟨rfl, rfl⟩)))
                          all_goals
                            go_wp2
                            go_ret
                            exact ⟨rfl, gk⟩
                      · as_aux_lemma =>
                          have hgt0 : en < (pre wd nn ss (q + 1)).length := by omega
                          have hv := val_len wd nn ss q k en X hlt HX.out h5 (by omega)
                          have ht := text_short R X (pre wd nn ss q).length 255 _ i1 (by decide) (by omega) (by omega) (by rw [hv]; omega) (by rw [hv]; omega)
                          clear hn1 hv
                          have hgt : (en : Int) < ((pre wd nn ss (q + 1)).length : Int) := by omega
                          go_wp2_with fail
                          ((with_reducible refine ht.mono ?_); rintro e w1 ⟨fb, rfl, _, f1, a1⟩)
                          clear ht
                          go_wp2_with fail
                          have pk := (gb_trans a1 (gb_drew w1 none)).cell pc (by simp)
                          have rk := i1.keep0 (gb_trans a1 (gb_drew w1 none))
                          have fk := f1.keep0 (gb_drew w1 none)
                          have gk := gb_trans i5 (gb_trans a1 (gb_drew w1 none))
                          have hdk := hd.keep0 gk
                          clear HC HR HX HE HXs i1 i2 i3 i4 i5 c0 c1 c2 a1 f1 pc
                          go_region_held3 (fun w' => w'.cell? ⟨G, q, none⟩ = some (.int .i64 ((pre wd nn ss q).length : Int))) (exact pk) (first | (go_at_call 11; go_must (refine (law_is_fault _ 3 (pre wd nn ss q).length _ hdk fk rfl).mono ?_; rintro e w2 ⟨rfl, a2⟩; replace pk := a2.cell pk (by simp); replace rk := rk.keep0 a2; replace gk := gb_trans gk a2)) | (go_at_call 14; go_must (refine (place_any R X (pre wd nn ss q).length _ rk).mono ?_; rintro e w2 ⟨rfl, rfl⟩)))
                          all_goals
                            go_wp2
                            go_ret
                            exact ⟨rfl, gk⟩
                    by_cases h6 : wd q % 5 = 0
                    · have t5 : (((wd q : Int) % 5) == 4) = false := by simp; omega
                      have e1 : (wd q : Int) % 5 = 0 := by omega
                      have e2 : (wd q : Int).tmod 5 = 0 := by rw [Int.tmod_eq_emod_of_nonneg (by omega)]; omega
                      have hnx := Lib.hid (next_num wd nn ss q 0 h6 (by decide))
                      have hn1 : (pre wd nn ss (q + 1)).length = (pre wd nn ss q).length + 1 := hnx.out
                      by_cases hok : (pre wd nn ss (q + 1)).length ≤ en
                      · as_aux_lemma =>
                          have hv : valAt X (pre wd nn ss q).length 1 = nn q % 256 := val_num wd nn ss q k en 0 X hlt HX.out h6 (by decide) (by omega)
                          have ht := num1_ok R X (pre wd nn ss q).length _ i1 (by omega) (by omega)
                          rw [hv, ← hn1] at ht
                          clear hn1 hv
                          have hgt : ¬ ((en : Int) < ((pre wd nn ss (q + 1)).length : Int)) := by omega
                          go_wp2_with fail
                          ((with_reducible refine ht.mono ?_); rintro e w1 ⟨rfl, r1, a1⟩)
                          clear ht
                          have g1 := gb_step i5 a1 hRb
                          have b1 := g1.cell (HC.out q (by omega)).2.1 (by simp)
                          have b2 := g1.cell (HC.out q (by omega)).2.2 (by simp)
                          have hsh := sh1 (nn q)
                          have r2 := r1
                          have a2 := gb_refl w1 none
                          go_wp2_with (first | (go_at_call 14; go_must (refine (place_any R X (pre wd nn ss (q + 1)).length _ r2).mono ?_; rintro e w2 ⟨rfl, rfl⟩)) | (go_at_call 15; go_must (refine (left_en R X (pre wd nn ss (q + 1)).length en _ r2 hok HXs.out (by omega)).mono ?_; rintro e w3 ⟨rfl, a3⟩)))
                          go_roundw
                          case rel => exact ⟨q + 1, by omega, by go_num, hok, r2.keep0 a3, (fun e => ((i2 e).keep a1 (ne_some (Ne.symm (hoth e)))).keep0 (gb_trans a2 a3)), (i3.keep a1 (ne_some hRA)).keep0 (gb_trans a2 a3), owns_keep0 (owns_keepT i4 i1 (by decide) a1) (gb_trans a2 a3), gb_trans g1 (gb_trans a2 a3)⟩
                          case measure => simp [intOf]; omega
                      · as_aux_lemma =>
                          have hgt0 : en < (pre wd nn ss (q + 1)).length := by omega
                          have ht := num1_short R X (pre wd nn ss q).length _ i1 (by omega) (by omega) (by omega)
                          clear hn1
                          have hgt : (en : Int) < ((pre wd nn ss (q + 1)).length : Int) := by omega
                          go_wp2_with fail
                          ((with_reducible refine ht.mono ?_); rintro e w1 ⟨fb, rfl, _, f1, a1⟩)
                          clear ht
                          go_wp2_with fail
                          have pk := (gb_trans a1 (gb_drew w1 none)).cell pc (by simp)
                          have rk := i1.keep0 (gb_trans a1 (gb_drew w1 none))
                          have fk := f1.keep0 (gb_drew w1 none)
                          have gk := gb_trans i5 (gb_trans a1 (gb_drew w1 none))
                          have hdk := hd.keep0 gk
                          clear HC HR HX HE HXs i1 i2 i3 i4 i5 c0 c1 c2 a1 f1 pc
                          go_region_held3 (fun w' => w'.cell? ⟨G, q, none⟩ = some (.int .i64 ((pre wd nn ss q).length : Int))) (exact pk) (first | (go_at_call 11; go_must (refine (law_is_fault _ 3 (pre wd nn ss q).length _ hdk fk rfl).mono ?_; rintro e w2 ⟨rfl, a2⟩; replace pk := a2.cell pk (by simp); replace rk := rk.keep0 a2; replace gk := gb_trans gk a2)) | (go_at_call 14; go_must (refine (place_any R X (pre wd nn ss q).length _ rk).mono ?_; rintro e w2 ⟨rfl, rfl⟩)))
                          all_goals
                            go_wp2
                            go_ret
                            exact ⟨rfl, gk⟩
                    by_cases h6 : wd q % 5 = 1
                    · have t5 : (((wd q : Int) % 5) == 4) = false := by simp; omega
                      have e1 : (wd q : Int) % 5 = 1 := by omega
                      have e2 : (wd q : Int).tmod 5 = 1 := by rw [Int.tmod_eq_emod_of_nonneg (by omega)]; omega
                      have hnx := Lib.hid (next_num wd nn ss q 1 h6 (by decide))
                      have hn1 : (pre wd nn ss (q + 1)).length = (pre wd nn ss q).length + 2 := hnx.out
                      by_cases hok : (pre wd nn ss (q + 1)).length ≤ en
                      · as_aux_lemma =>
                          have hv : valAt X (pre wd nn ss q).length 2 = nn q % 65536 := val_num wd nn ss q k en 1 X hlt HX.out h6 (by decide) (by omega)
                          have ht := num2_ok R X (pre wd nn ss q).length _ i1 (by omega) (by omega)
                          rw [hv, ← hn1] at ht
                          clear hn1 hv
                          have hgt : ¬ ((en : Int) < ((pre wd nn ss (q + 1)).length : Int)) := by omega
                          go_wp2_with fail
                          ((with_reducible refine ht.mono ?_); rintro e w1 ⟨rfl, r1, a1⟩)
                          clear ht
                          have g1 := gb_step i5 a1 hRb
                          have b1 := g1.cell (HC.out q (by omega)).2.1 (by simp)
                          have b2 := g1.cell (HC.out q (by omega)).2.2 (by simp)
                          have hsh := sh2 (nn q)
                          have r2 := r1
                          have a2 := gb_refl w1 none
                          go_wp2_with (first | (go_at_call 14; go_must (refine (place_any R X (pre wd nn ss (q + 1)).length _ r2).mono ?_; rintro e w2 ⟨rfl, rfl⟩)) | (go_at_call 15; go_must (refine (left_en R X (pre wd nn ss (q + 1)).length en _ r2 hok HXs.out (by omega)).mono ?_; rintro e w3 ⟨rfl, a3⟩)))
                          go_roundw
                          case rel => exact ⟨q + 1, by omega, by go_num, hok, r2.keep0 a3, (fun e => ((i2 e).keep a1 (ne_some (Ne.symm (hoth e)))).keep0 (gb_trans a2 a3)), (i3.keep a1 (ne_some hRA)).keep0 (gb_trans a2 a3), owns_keep0 (owns_keepT i4 i1 (by decide) a1) (gb_trans a2 a3), gb_trans g1 (gb_trans a2 a3)⟩
                          case measure => simp [intOf]; omega
                      · as_aux_lemma =>
                          have hgt0 : en < (pre wd nn ss (q + 1)).length := by omega
                          have ht := num2_short R X (pre wd nn ss q).length _ i1 (by omega) (by omega) (by omega)
                          clear hn1
                          have hgt : (en : Int) < ((pre wd nn ss (q + 1)).length : Int) := by omega
                          go_wp2_with fail
                          ((with_reducible refine ht.mono ?_); rintro e w1 ⟨fb, rfl, _, f1, a1⟩)
                          clear ht
                          go_wp2_with fail
                          have pk := (gb_trans a1 (gb_drew w1 none)).cell pc (by simp)
                          have rk := i1.keep0 (gb_trans a1 (gb_drew w1 none))
                          have fk := f1.keep0 (gb_drew w1 none)
                          have gk := gb_trans i5 (gb_trans a1 (gb_drew w1 none))
                          have hdk := hd.keep0 gk
                          clear HC HR HX HE HXs i1 i2 i3 i4 i5 c0 c1 c2 a1 f1 pc
                          go_region_held3 (fun w' => w'.cell? ⟨G, q, none⟩ = some (.int .i64 ((pre wd nn ss q).length : Int))) (exact pk) (first | (go_at_call 11; go_must (refine (law_is_fault _ 3 (pre wd nn ss q).length _ hdk fk rfl).mono ?_; rintro e w2 ⟨rfl, a2⟩; replace pk := a2.cell pk (by simp); replace rk := rk.keep0 a2; replace gk := gb_trans gk a2)) | (go_at_call 14; go_must (refine (place_any R X (pre wd nn ss q).length _ rk).mono ?_; rintro e w2 ⟨rfl, rfl⟩)))
                          all_goals
                            go_wp2
                            go_ret
                            exact ⟨rfl, gk⟩
                    by_cases h6 : wd q % 5 = 2
                    · have t5 : (((wd q : Int) % 5) == 4) = false := by simp; omega
                      have e1 : (wd q : Int) % 5 = 2 := by omega
                      have e2 : (wd q : Int).tmod 5 = 2 := by rw [Int.tmod_eq_emod_of_nonneg (by omega)]; omega
                      have hnx := Lib.hid (next_num wd nn ss q 2 h6 (by decide))
                      have hn1 : (pre wd nn ss (q + 1)).length = (pre wd nn ss q).length + 4 := hnx.out
                      by_cases hok : (pre wd nn ss (q + 1)).length ≤ en
                      · as_aux_lemma =>
                          have hv : valAt X (pre wd nn ss q).length 4 = nn q % 4294967296 := val_num wd nn ss q k en 2 X hlt HX.out h6 (by decide) (by omega)
                          have ht := num4_ok R X (pre wd nn ss q).length _ i1 (by omega) (by omega)
                          rw [hv, ← hn1] at ht
                          clear hn1 hv
                          have hgt : ¬ ((en : Int) < ((pre wd nn ss (q + 1)).length : Int)) := by omega
                          go_wp2_with fail
                          ((with_reducible refine ht.mono ?_); rintro e w1 ⟨rfl, r1, a1⟩)
                          clear ht
                          have g1 := gb_step i5 a1 hRb
                          have b1 := g1.cell (HC.out q (by omega)).2.1 (by simp)
                          have b2 := g1.cell (HC.out q (by omega)).2.2 (by simp)
                          have hsh := sh4 (nn q)
                          have r2 := r1
                          have a2 := gb_refl w1 none
                          go_wp2_with (first | (go_at_call 14; go_must (refine (place_any R X (pre wd nn ss (q + 1)).length _ r2).mono ?_; rintro e w2 ⟨rfl, rfl⟩)) | (go_at_call 15; go_must (refine (left_en R X (pre wd nn ss (q + 1)).length en _ r2 hok HXs.out (by omega)).mono ?_; rintro e w3 ⟨rfl, a3⟩)))
                          go_roundw
                          case rel => exact ⟨q + 1, by omega, by go_num, hok, r2.keep0 a3, (fun e => ((i2 e).keep a1 (ne_some (Ne.symm (hoth e)))).keep0 (gb_trans a2 a3)), (i3.keep a1 (ne_some hRA)).keep0 (gb_trans a2 a3), owns_keep0 (owns_keepT i4 i1 (by decide) a1) (gb_trans a2 a3), gb_trans g1 (gb_trans a2 a3)⟩
                          case measure => simp [intOf]; omega
                      · as_aux_lemma =>
                          have hgt0 : en < (pre wd nn ss (q + 1)).length := by omega
                          have ht := num4_short R X (pre wd nn ss q).length _ i1 (by omega) (by omega) (by omega)
                          clear hn1
                          have hgt : (en : Int) < ((pre wd nn ss (q + 1)).length : Int) := by omega
                          go_wp2_with fail
                          ((with_reducible refine ht.mono ?_); rintro e w1 ⟨fb, rfl, _, f1, a1⟩)
                          clear ht
                          go_wp2_with fail
                          have pk := (gb_trans a1 (gb_drew w1 none)).cell pc (by simp)
                          have rk := i1.keep0 (gb_trans a1 (gb_drew w1 none))
                          have fk := f1.keep0 (gb_drew w1 none)
                          have gk := gb_trans i5 (gb_trans a1 (gb_drew w1 none))
                          have hdk := hd.keep0 gk
                          clear HC HR HX HE HXs i1 i2 i3 i4 i5 c0 c1 c2 a1 f1 pc
                          go_region_held3 (fun w' => w'.cell? ⟨G, q, none⟩ = some (.int .i64 ((pre wd nn ss q).length : Int))) (exact pk) (first | (go_at_call 11; go_must (refine (law_is_fault _ 3 (pre wd nn ss q).length _ hdk fk rfl).mono ?_; rintro e w2 ⟨rfl, a2⟩; replace pk := a2.cell pk (by simp); replace rk := rk.keep0 a2; replace gk := gb_trans gk a2)) | (go_at_call 14; go_must (refine (place_any R X (pre wd nn ss q).length _ rk).mono ?_; rintro e w2 ⟨rfl, rfl⟩)))
                          all_goals
                            go_wp2
                            go_ret
                            exact ⟨rfl, gk⟩
                    have h6 : wd q % 5 = 3 := by omega
                    have t5 : (((wd q : Int) % 5) == 4) = false := by simp; omega
                    have e1 : (wd q : Int) % 5 = 3 := by omega
                    have e2 : (wd q : Int).tmod 5 = 3 := by rw [Int.tmod_eq_emod_of_nonneg (by omega)]; omega
                    have hnx := Lib.hid (next_num wd nn ss q 3 h6 (by decide))
                    have hn1 : (pre wd nn ss (q + 1)).length = (pre wd nn ss q).length + 8 := hnx.out
                    by_cases hok : (pre wd nn ss (q + 1)).length ≤ en
                    · as_aux_lemma =>
                        have hv : valAt X (pre wd nn ss q).length 8 = nn q := (val_num wd nn ss q k en 3 X hlt HX.out h6 (by decide) (by omega)).trans (Nat.mod_eq_of_lt wk2)
                        have ht := num8_ok R X (pre wd nn ss q).length _ i1 (by omega) (by omega)
                        rw [hv, ← hn1] at ht
                        clear hn1 hv
                        have hgt : ¬ ((en : Int) < ((pre wd nn ss (q + 1)).length : Int)) := by omega
                        go_wp2_with fail
                        ((with_reducible refine ht.mono ?_); rintro e w1 ⟨rfl, r1, a1⟩)
                        clear ht
                        have g1 := gb_step i5 a1 hRb
                        have b1 := g1.cell (HC.out q (by omega)).2.1 (by simp)
                        have b2 := g1.cell (HC.out q (by omega)).2.2 (by simp)
                        have r2 := r1
                        have a2 := gb_refl w1 none
                        go_wp2_with (first | (go_at_call 14; go_must (refine (place_any R X (pre wd nn ss (q + 1)).length _ r2).mono ?_; rintro e w2 ⟨rfl, rfl⟩)) | (go_at_call 15; go_must (refine (left_en R X (pre wd nn ss (q + 1)).length en _ r2 hok HXs.out (by omega)).mono ?_; rintro e w3 ⟨rfl, a3⟩)))
                        go_roundw
                        case rel => exact ⟨q + 1, by omega, by go_num, hok, r2.keep0 a3, (fun e => ((i2 e).keep a1 (ne_some (Ne.symm (hoth e)))).keep0 (gb_trans a2 a3)), (i3.keep a1 (ne_some hRA)).keep0 (gb_trans a2 a3), owns_keep0 (owns_keepT i4 i1 (by decide) a1) (gb_trans a2 a3), gb_trans g1 (gb_trans a2 a3)⟩
                        case measure => simp [intOf]; omega
                    · as_aux_lemma =>
                        have hgt0 : en < (pre wd nn ss (q + 1)).length := by omega
                        have ht := num8_short R X (pre wd nn ss q).length _ i1 (by omega) (by omega) (by omega)
                        clear hn1
                        have hgt : (en : Int) < ((pre wd nn ss (q + 1)).length : Int) := by omega
                        go_wp2_with fail
                        ((with_reducible refine ht.mono ?_); rintro e w1 ⟨fb, rfl, _, f1, a1⟩)
                        clear ht
                        go_wp2_with fail
                        have pk := (gb_trans a1 (gb_drew w1 none)).cell pc (by simp)
                        have rk := i1.keep0 (gb_trans a1 (gb_drew w1 none))
                        have fk := f1.keep0 (gb_drew w1 none)
                        have gk := gb_trans i5 (gb_trans a1 (gb_drew w1 none))
                        have hdk := hd.keep0 gk
                        clear HC HR HX HE HXs i1 i2 i3 i4 i5 c0 c1 c2 a1 f1 pc
                        go_region_held3 (fun w' => w'.cell? ⟨G, q, none⟩ = some (.int .i64 ((pre wd nn ss q).length : Int))) (exact pk) (first | (go_at_call 11; go_must (refine (law_is_fault _ 3 (pre wd nn ss q).length _ hdk fk rfl).mono ?_; rintro e w2 ⟨rfl, a2⟩; replace pk := a2.cell pk (by simp); replace rk := rk.keep0 a2; replace gk := gb_trans gk a2)) | (go_at_call 14; go_must (refine (place_any R X (pre wd nn ss q).length _ rk).mono ?_; rintro e w2 ⟨rfl, rfl⟩)))
                        all_goals
                          go_wp2
                          go_ret
                          exact ⟨rfl, gk⟩
                · have hqk : q = k := by omega
                  subst hqk
                  have hen2 : (pre wd nn ss q).length = X.size := by omega
                  have HEn := Lib.hid hen2
                  clear hen2
                  go_wp2_with (go_at_call 16; go_must (refine (end_all R X _ _ i1 HEn.out (by omega)).mono ?_; rintro e w9 ⟨rfl, a9⟩))
                  go_roundw
                  case rel => exact ⟨j + 1, by omega, by go_num, (fun e => by omega), (fun e => (i2 (by omega)).keep0 a9), i3.keep0 a9, owns_keep0 i4 a9, gb_trans i5 a9⟩
                  case measure => simp [intOf]; omega
end Go.Proofs.YtcoedakbagbenaaDoor
