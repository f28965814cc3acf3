/-
  Texts of one layer, one behind the other, each with its own sentence; conditions: those that each law states.
-/
import Derived.Shelf.Strings.BuilderK
import Derived.Shelf.Strings.BuilderF
import Derived.TacticsInMore
import Derived.Test.YtliiooldlooagaaGreatDoorZD4
import Derived.Test.YtliiooldlooagaaGreatDoorZJ6
import Derived.Test.YtliiooldlooagaaGreatDoorZO2
import Derived.Test.YtliiooldlooagaaGreatDoorZROOT2
import Derived.Test.YtliiooldlooagaaGreatDoorZROOT9
set_option linter.unusedSimpArgs false
set_option linter.unusedVariables false

/-
  A builder of the call's own beside a transaction; what Get answers of any page; over this seat's translation; conditions: those that each law states.
-/
namespace Go.Proofs.YtliiooldlooagaaGreatDoor.O12
open Go.RowKit Go.Maps Go.Shelf J10
/-- A builder. -/
def IsB (B b : Nat) (acc : List UInt8) (W : World) : Prop := Lib.IsBuilderF 90 5 B b (Lib.byteCells acc) W
theorem IsB.new (w : World) : IsB w.heap.size w.heap.size [] (w.alloc (.cells #[.pointer none, .slice none 0 0] 90)) := Lib.IsBuilderF.of (Lib.fresh_isBuilder _ _ w)
theorem IsB.kp {B b : Nat} {acc : List UInt8} {F : Nat → Prop} {W W' : World} (h : IsB B b acc W) (k : D5.Kp F W W') (hF : ∀ i, F i → i < B) : IsB B b acc W' := by
  have one : ∀ q, Lib.BuilderAtF 90 5 B b q (Lib.byteCells acc) W → Lib.BuilderAtF 90 5 B b q (Lib.byteCells acc) W' := by
    rintro q ⟨hB, v, hb, ⟨h1, h2⟩, hne⟩
    refine ⟨hB, v, (k.block b (Array.getElem?_eq_some_iff.1 hb).1 (fun e => by have := hF b e; omega)).trans hb, ⟨h1, ?_⟩, hne⟩
    rcases h2 with h2 | ⟨g, cap, cur, fz, e, hg, hh, rest⟩
    · exact .inl h2
    · exact .inr ⟨g, cap, cur, fz, e, hg, (k.block g (Array.getElem?_eq_some_iff.1 hh).1 (fun e => by have := hF g e; omega)).trans hh, rest⟩
  exact h.elim (fun x => .inl (one _ x)) (fun x => .inr (one _ x))
theorem bl_len {B b : Nat} {acc : List UInt8} {W : World} (h : IsB B b acc W) : Calls Tryz.prog 36 #[.pointer (some ⟨b, 0, none⟩)] W fun e w' => e = .returned (.int .i64 (acc.length : Nat)) ∧ W = w' := by
  refine (Any.Builder_Len_f (P := Tryz.prog) (ρ := Tryz.lays105_ren) { Tryz.lays105 with } B b (Lib.byteCells acc) W h).mono ?_
  rintro e w' ⟨rfl, rfl⟩
  rw [Lib.byteCells_length]
  exact ⟨rfl, rfl⟩
theorem bl_write {B b : Nat} {acc : List UInt8} {W : World} (h : IsB B b acc W) (s : ByteArray) (hl : acc.length + s.size ≤ 100000) (hB : B ≤ W.heap.size) : Calls Tryz.prog 38 #[.pointer (some ⟨b, 0, none⟩), .string s] W fun e w' => e = .returned (.tuple #[.int .i64 (s.size : Nat), .nilIface]) ∧ IsB B b (acc ++ s.data.toList) w' ∧ Below B W w' ∧ Lib.OthersKept 5 (some b) W w' := by
  refine (Any.Builder_WriteString_k (P := Tryz.prog) (ρ := Tryz.lays105_ren) { Tryz.lays105 with } Tryz.Builder_Extra_105 B b (Lib.byteCells acc) s W h (by rw [Lib.byteCells_length]; omega) hB).mono ?_
  rintro e w' ⟨rfl, h1, h2, h3⟩
  refine ⟨rfl, .inr ?_, h2, h3⟩
  have e1 : Lib.byteCells (acc ++ s.data.toList) = Lib.byteCells acc ++ Lib.strCells s := by unfold Lib.byteCells Lib.strCells; rw [List.map_append]
  rw [e1]
  exact h1
theorem bl_str {B b : Nat} {acc : List UInt8} {W : World} (h : IsB B b acc W) (hB : B ≤ W.heap.size) : Calls Tryz.prog 39 #[.pointer (some ⟨b, 0, none⟩)] W fun e w' => e = .returned (.string ⟨acc.toArray⟩) ∧ Below B W w' := by
  refine (Any.Builder_String_any_k (P := Tryz.prog) (ρ := Tryz.lays105_ren) { Tryz.lays105 with } Tryz.Builder_Extra_105 B b acc W h hB).mono ?_
  rintro e w' ⟨rfl, h1, h2, h3⟩
  exact ⟨rfl, h2⟩
theorem kp_of_below {B : Nat} {a b : World} (h : Below B a b) : D5.Kp (fun i => B ≤ i) a b := ⟨h.os, h.tape, h.output, h.size, fun k _ hk => h.block k (by omega)⟩
theorem blk_others {W w' : World} {b c : Nat} {t : TypeId} {cs : Array Value} (h : Blk W c t cs) (k : Lib.OthersKept 5 (some b) W w') (hne : c ≠ b) (ht : t ≠ 5) : Blk w' c t cs :=
  k c _ h (fun e => hne (Option.some.inj e)) (fun c fz e => by injection e with _ e2; exact ht e2)
/-- One step of Get. -/
theorem get_none {V : Pgs} {k left : Nat} {q : Int} (h : bodyAt V q = none) : getL V (k + 1) q left = none := by unfold getL; rw [h]
theorem get_bad {V : Pgs} {k left : Nat} {q : Int} {b : ByteArray} (h : bodyAt V q = some b) (hb : ¬ (b.size - 2 = min left 238 ∧ (nxt b = 0 ↔ left ≤ 238))) : getL V (k + 1) q left = none := by unfold getL; rw [h]; simp only [if_neg hb]
theorem get_more {V : Pgs} {k left : Nat} {q : Int} {b : ByteArray} (h : bodyAt V q = some b) (hb : b.size - 2 = min left 238 ∧ (nxt b = 0 ↔ left ≤ 238)) : getL V (k + 1) q left = (getL V k (nxt b) (left - 238)).map (pce b ++ ·) := by rw [getL]; rw [h]; simp only [if_pos hb]
def GetR (o : Option (List UInt8)) (e : Ending) : Prop := match o with
  | some l => e = .returned (.tuple #[.string ⟨l.toArray⟩, .int .i64 0])
  | none => e = .returned (.tuple #[.string noE, .int .i64 29])
def GetG (w : World) (base p : Nat) (F : Nat → Prop) (y : Bx) (n : Nat) (g0 : Pg) (V V' : Pgs) (N z : Nat) (first : Int) (len : Nat) (e : Ending) (w' : World) : Prop :=
  GetR (getL V' (need len) first len) e ∧ D5.Kp F w w' ∧ Live w' base p F y n g0 V V' (N + 9) z
theorem get_arg {t : Option Addr} {w : World} (first z : Int) (hz : In64 z) (h : z < 1 ∨ 2000 < z) : Calls Tryz.prog 15 #[.pointer t, .int .i64 first, .int .i64 z] w fun e w' => e = .returned (.tuple #[.string noE, .int .i64 2]) ∧ w = w' := by
  have HN := Lib.hid (fun w => need_any z hz w)
  have h0 : needZ z = 0 := if_pos h
  rw [h0] at HN
  clear h0 h
  go_enter Tryz.func15, Tryz.ntmps15
  go_wp2_with (first
    | (go_at_call 10; (with_reducible refine (HN.out _).mono ?_); rintro e w1 ⟨rfl, rfl⟩)
    | fail)
  go_ret2
  exact ⟨rfl, rfl⟩
end Go.Proofs.YtliiooldlooagaaGreatDoor.O12

/-
  What Get answers of any page; over this seat's translation; conditions: those that each law states.
-/
namespace Go.Proofs.YtliiooldlooagaaGreatDoor.O12
open Go.RowKit Go.Maps Go.Shelf J10
/-- How long a builder is. -/
def blen (b : Nat) (W : World) : Nat := match W.cell? ⟨b, 1, none⟩ with
  | some v => lenV v
  | none => 0
theorem IsB.len {B b : Nat} {acc : List UInt8} {W : World} (h : IsB B b acc W) : blen b W = acc.length := by
  have one : ∀ q, Lib.BuilderAtF 90 5 B b q (Lib.byteCells acc) W → blen b W = acc.length := by
    rintro q ⟨hB, v, hb, ⟨h1, h2⟩, hne⟩
    have hc : W.cell? ⟨b, 1, none⟩ = some v := by simp [World.cell?, hb]
    unfold blen
    rw [hc]
    rw [Lib.byteCells_length] at h2
    rcases h2 with ⟨rfl, h0⟩ | ⟨g, cap, cur, fz, rfl, _⟩
    · exact h0.symm
    · rfl
  exact h.elim (one _) (one _)
theorem IsB.lt {B b : Nat} {acc : List UInt8} {W : World} (h : IsB B b acc W) : b < W.heap.size := by
  have one : ∀ q, Lib.BuilderAtF 90 5 B b q (Lib.byteCells acc) W → b < W.heap.size := by
    rintro q ⟨hB, v, hb, _⟩
    exact (Array.getElem?_eq_some_iff.1 hb).1
  exact h.elim (one _) (one _)
set_option maxRecDepth 100000 in
set_option maxHeartbeats 8000000 in
theorem get_live {w : World} {base p : Nat} {F : Nat → Prop} {y : Bx} {n : Nat} {g0 : Pg} {V V' : Pgs} {N z : Nat} (h : Live w base p F y n g0 V V' N z) (hF : ∀ i, F i → i < w.heap.size) (ha : g0.d.armed = false) (hN : N ≤ 870000) {first : Int} (hq : In64 first) {len : Nat} (hl1 : 1 ≤ len) (hl2 : len ≤ 2000) :
    Calls Tryz.prog 15 #[.pointer (some ⟨y.x, 0, none⟩), .int .i64 first, .int .i64 (len : Nat)] w (GetG w base p F y n g0 V V' N z first len) := by
  unfold GetG
  obtain ⟨l1, l2, l3, l4⟩ := h.lt
  have hfar : ∀ i, FX F y i → i < w.heap.size := fun i hi => by
    rcases hi with hi | rfl | rfl | rfl | rfl
    · exact hF i hi
    all_goals omega
  have hn9 := need_le hl2
  have HFar := Lib.hid hfar
  have HF := Lib.hid hF
  have H0 := Lib.hid h
  have HN := Lib.hid (fun w => need_any (len : Int) (show In64 (len : Int) from ⟨by omega, by omega⟩) w)
  have hnz := needZ_nat hl2
  have hne : need len ≠ 0 := fun e => by have := need_zero.1 e; omega
  rw [hnz] at HN
  obtain ⟨m, hm⟩ : ∃ m, need len = m := ⟨_, rfl⟩
  rw [hm] at HN hne hn9
  have HM := Lib.hid hm
  clear h hF hfar l1 l2 l3 l4 hnz hm
  have hmz : (((m : Nat) : Int) == 0) = false := by simp; omega
  go_enter Tryz.func15, Tryz.ntmps15
  go_wp2_with (first
    | (go_at_call 10; (with_reducible refine (HN.out _).mono ?_); rintro e w1 ⟨rfl, rfl⟩)
    | fail)
  go_loopw [9] (fun q wr => ∃ (acc : List UInt8) (x : Int) (r : Nat), q = .int .i64 x ∧ In64 x ∧ IsB w.heap.size w.heap.size acc wr ∧ Live wr base p F y n g0 V V' (N + r) z ∧ D5.Kp F w wr ∧ acc.length ≤ len ∧ r + need (len - acc.length) = m ∧ getL V' (need len) first len = (getL V' (need (len - acc.length)) x (len - acc.length)).map (acc ++ ·)) (fun _ wr => len - blen w.heap.size wr)
  case atStart => exact ⟨[], first, 0, rfl, hq, IsB.new w, H0.out.keep0 (gb_alloc _ _ none), D5.Kp.of0 (gb_alloc _ _ none), by simp, by simp [HM.out], by simp⟩
  case round =>
    obtain ⟨acc, x, r, rfl, hx, hB, hLv, hk, hal, hr, hp⟩ := hrel
    have hz0 := hk.size
    have hblt : w.heap.size < wr.heap.size := hB.lt
    have HB := Lib.hid hB
    have Hk := Lib.hid hk
    by_cases hlt : acc.length < len
    · obtain ⟨lf, hlf⟩ : ∃ lf, len - acc.length = lf := ⟨_, rfl⟩
      rw [hlf] at hp hr
      have hlf1 : 0 < lf := by omega
      have hC := link_live hLv (fun i hi => Nat.lt_of_lt_of_le (HF.out i hi) hz0) ha (by omega) hx
      obtain ⟨k9, hk9⟩ : ∃ k9, need lf = k9 + 1 := ⟨need (lf - 238), need_drop hlf1⟩
      have hk8 : need (lf - 238) = k9 := by have := need_drop hlf1; omega
      have HK8 := Lib.hid hk8
      rw [hk9] at hp hr
      have hwl : IntKind.i64.wrap ((len : Int) - (acc.length : Int)) = (lf : Int) := by rw [show (len : Int) - (acc.length : Int) = (lf : Int) by omega]; exact IntWalk.i64_in _ (by omega)
      have hlti : (acc.length : Int) < (len : Int) := by omega
      clear hk8 hk9 hk hLv hB
      cases hb : bodyAt V' x with
      | none =>
        have e1 : linkE V' x = .returned (.tuple #[.agg #[.int .i64 0, .string noE], .int .i64 29]) := by unfold linkE; rw [hb]; rfl
        rw [e1] at hC
        rw [get_none hb] at hp
        have HC := Lib.hid hC
        have HQ := Lib.hid hp
        clear hC hb hp e1
        go_wp2_with (first
          | (go_at_call 36; first | ((with_reducible refine (bl_len HB.out).mono ?_); rintro e w' ⟨rfl, rfl⟩) | ((with_reducible refine (bl_len hB1.out).mono ?_); rintro e w' ⟨rfl, rfl⟩))
          | (go_at_call 37; (with_reducible refine HC.out.mono ?_); rintro e w1 ⟨rfl, k1, v1⟩; have hB1 := ((HB.out.kp k1 HF.out).kp (D5.Kp.of0 (F := fun _ => False) (gb_alloc w1 (.cells #[.int .i64 0, .string noE] 66) none)) (fun _ h => h.elim)); have bL := Blk.mk w1 66 #[.int .i64 0, .string noE]; have hB1 := Lib.hid hB1; have k1 := Lib.hid k1; have v1 := Lib.hid v1)
          | fail)
        go_ret2
        exact ⟨by rw [HQ.out]; rfl, (Hk.out.trans k1.out).step0 (gb_alloc _ _ none), (v1.out.keep0 (gb_alloc _ _ none)).more (by omega)⟩
      | some b =>
        have e1 : linkE V' x = .returned (.tuple #[.agg #[.int .i64 (nxt b : Nat), .string (pceB b)], .int .i64 0]) := by unfold linkE; rw [hb]; rfl
        rw [e1] at hC
        have hnl := nxt_lt b
        have hsz := pceB_size b
        have hgt := (bodyAt_some hb).2
        have hpl := Lib.hid (pceB_list b)
        have hGB := Lib.hid (fun (hc : ¬ (b.size - 2 = min lf 238 ∧ (nxt b = 0 ↔ lf ≤ 238))) => hp.trans (by rw [get_bad hb hc]))
        have hGM := Lib.hid (fun (hc : b.size - 2 = min lf 238 ∧ (nxt b = 0 ↔ lf ≤ 238)) => hp.trans (by rw [get_more hb hc]))
        rw [← hsz] at hGB hGM
        obtain ⟨nb, hnb⟩ : ∃ nb, nxt b = nb := ⟨_, rfl⟩
        obtain ⟨pb, hpb⟩ : ∃ pb, pceB b = pb := ⟨_, rfl⟩
        rw [hnb, hpb] at hC hGB hGM
        rw [hnb] at hnl
        rw [hpb] at hpl
        have HC := Lib.hid hC
        clear hC hb hp e1 hnb hpb hsz hgt
        by_cases hA : pb.size = min lf 238
        · have hA2 : (((pb.size : Nat) : Int) != min ((lf : Nat) : Int) 238) = false := by simp; omega
          have HA := Lib.hid hA
          by_cases hz : nb = 0
          · subst hz
            by_cases hL : lf ≤ 238
            · have hL2 : (((lf : Nat) : Int) ≤ 238) = True := by simp; omega
              have hpz := Lib.hid (show pb.size = lf by omega)
              have HQ := Lib.hid (hGM.out ⟨hA, by omega⟩)
              have HL := Lib.hid hL
              clear hGB hGM hA hL
              go_wp2_with (first
                | (go_at_call 36; first | ((with_reducible refine (bl_len HB.out).mono ?_); rintro e w' ⟨rfl, rfl⟩) | ((with_reducible refine (bl_len hB1.out).mono ?_); rintro e w' ⟨rfl, rfl⟩))
                | (go_at_call 37; (with_reducible refine HC.out.mono ?_); rintro e w1 ⟨rfl, k1, v1⟩; have hB1 := ((HB.out.kp k1 HF.out).kp (D5.Kp.of0 (F := fun _ => False) (gb_alloc w1 (.cells #[.int .i64 0, .string pb] 66) none)) (fun _ h => h.elim)); have bL := Blk.mk w1 66 #[.int .i64 0, .string pb]; have hB1 := Lib.hid hB1; have k1 := Lib.hid k1; have v1 := Lib.hid v1)
                | (go_at_call 38; (with_reducible refine (bl_write hB1.out pb (by have := hpz.out; omega) (by have := k1.out.size; simp; omega)).mono ?_); rintro e w3 ⟨rfl, hB3, bw3, ok3⟩; have bL3 := blk_others bL ok3 (by have := k1.out.size; have := Hk.out.size; have := hblt; omega) (by decide); have c0 := bL3.cell 0 rfl; have hB3 := Lib.hid hB3; have bw3 := Lib.hid bw3; clear ok3 bL bL3)
                | fail)
              have hpz := hpz.out
              have hL := HL.out
              have hlen3 : (acc ++ pb.data.toList).length = acc.length + pb.size := by rw [List.length_append, Array.length_toList]; rfl
              have kA := (D5.Kp.of0 (F := fun i => w.heap.size ≤ i) (gb_alloc w1 (.cells #[.int .i64 0, .string pb] 66) none)).trans (kp_of_below bw3.out)
              have KA := Lib.hid kA
              go_roundw
              case rel => exact ⟨acc ++ pb.data.toList, 0, r + 1, rfl, ⟨by omega, by omega⟩, hB3.out, (v1.out.kp KA.out (fun i hi => by have := HFar.out i hi; omega)).more (by omega), kp_far (Hk.out.trans k1.out) KA.out, by rw [hlen3]; omega, by rw [hlen3, show len - (acc.length + pb.size) = lf - 238 by omega, HK8.out]; omega, by rw [HQ.out, hlen3, show len - (acc.length + pb.size) = lf - 238 by omega, HK8.out, hpl.out]; cases getL V' k9 0 (lf - 238) <;> simp⟩
              case measure => rw [hB3.out.len, HB.out.len, hlen3]; omega
            · have hL2 : (((lf : Nat) : Int) ≤ 238) = False := by simp; omega
              have HQ := Lib.hid (hGB.out (by omega))
              have HL := Lib.hid hL
              clear hGB hGM hA hL
              go_wp2_with (first
                | (go_at_call 36; first | ((with_reducible refine (bl_len HB.out).mono ?_); rintro e w' ⟨rfl, rfl⟩) | ((with_reducible refine (bl_len hB1.out).mono ?_); rintro e w' ⟨rfl, rfl⟩))
                | (go_at_call 37; (with_reducible refine HC.out.mono ?_); rintro e w1 ⟨rfl, k1, v1⟩; have hB1 := ((HB.out.kp k1 HF.out).kp (D5.Kp.of0 (F := fun _ => False) (gb_alloc w1 (.cells #[.int .i64 0, .string pb] 66) none)) (fun _ h => h.elim)); have bL := Blk.mk w1 66 #[.int .i64 0, .string pb]; have hB1 := Lib.hid hB1; have k1 := Lib.hid k1; have v1 := Lib.hid v1)
                | fail)
              go_ret2
              exact ⟨by rw [HQ.out]; rfl, (Hk.out.trans k1.out).step0 (gb_alloc _ _ none), (v1.out.keep0 (gb_alloc _ _ none)).more (by omega)⟩
          · have hz2 : (((nb : Nat) : Int) == 0) = false := by simp; omega
            by_cases hL : lf ≤ 238
            · have hL2 : (((lf : Nat) : Int) ≤ 238) = True := by simp; omega
              have HQ := Lib.hid (hGB.out (by omega))
              have HL := Lib.hid hL
              clear hGB hGM hA hL
              go_wp2_with (first
                | (go_at_call 36; first | ((with_reducible refine (bl_len HB.out).mono ?_); rintro e w' ⟨rfl, rfl⟩) | ((with_reducible refine (bl_len hB1.out).mono ?_); rintro e w' ⟨rfl, rfl⟩))
                | (go_at_call 37; (with_reducible refine HC.out.mono ?_); rintro e w1 ⟨rfl, k1, v1⟩; have hB1 := ((HB.out.kp k1 HF.out).kp (D5.Kp.of0 (F := fun _ => False) (gb_alloc w1 (.cells #[.int .i64 (nb : Nat), .string pb] 66) none)) (fun _ h => h.elim)); have bL := Blk.mk w1 66 #[.int .i64 (nb : Nat), .string pb]; have hB1 := Lib.hid hB1; have k1 := Lib.hid k1; have v1 := Lib.hid v1)
                | fail)
              go_ret2
              exact ⟨by rw [HQ.out]; rfl, (Hk.out.trans k1.out).step0 (gb_alloc _ _ none), (v1.out.keep0 (gb_alloc _ _ none)).more (by omega)⟩
            · have hL2 : (((lf : Nat) : Int) ≤ 238) = False := by simp; omega
              have hpz := Lib.hid (show pb.size = 238 by omega)
              have HQ := Lib.hid (hGM.out ⟨hA, by omega⟩)
              have HL := Lib.hid hL
              clear hGB hGM hA hL
              go_wp2_with (first
                | (go_at_call 36; first | ((with_reducible refine (bl_len HB.out).mono ?_); rintro e w' ⟨rfl, rfl⟩) | ((with_reducible refine (bl_len hB1.out).mono ?_); rintro e w' ⟨rfl, rfl⟩))
                | (go_at_call 37; (with_reducible refine HC.out.mono ?_); rintro e w1 ⟨rfl, k1, v1⟩; have hB1 := ((HB.out.kp k1 HF.out).kp (D5.Kp.of0 (F := fun _ => False) (gb_alloc w1 (.cells #[.int .i64 (nb : Nat), .string pb] 66) none)) (fun _ h => h.elim)); have bL := Blk.mk w1 66 #[.int .i64 (nb : Nat), .string pb]; have hB1 := Lib.hid hB1; have k1 := Lib.hid k1; have v1 := Lib.hid v1)
                | (go_at_call 38; (with_reducible refine (bl_write hB1.out pb (by have := hpz.out; omega) (by have := k1.out.size; simp; omega)).mono ?_); rintro e w3 ⟨rfl, hB3, bw3, ok3⟩; have bL3 := blk_others bL ok3 (by have := k1.out.size; have := Hk.out.size; have := hblt; omega) (by decide); have c0 := bL3.cell 0 rfl; have hB3 := Lib.hid hB3; have bw3 := Lib.hid bw3; clear ok3 bL bL3)
                | fail)
              have hpz := hpz.out
              have hL := HL.out
              have hlen3 : (acc ++ pb.data.toList).length = acc.length + pb.size := by rw [List.length_append, Array.length_toList]; rfl
              have kA := (D5.Kp.of0 (F := fun i => w.heap.size ≤ i) (gb_alloc w1 (.cells #[.int .i64 (nb : Nat), .string pb] 66) none)).trans (kp_of_below bw3.out)
              have KA := Lib.hid kA
              go_roundw
              case rel => exact ⟨acc ++ pb.data.toList, ((nb : Nat) : Int), r + 1, rfl, ⟨by omega, by omega⟩, hB3.out, (v1.out.kp KA.out (fun i hi => by have := HFar.out i hi; omega)).more (by omega), kp_far (Hk.out.trans k1.out) KA.out, by rw [hlen3]; omega, by rw [hlen3, show len - (acc.length + pb.size) = lf - 238 by omega, HK8.out]; omega, by rw [HQ.out, hlen3, show len - (acc.length + pb.size) = lf - 238 by omega, HK8.out, hpl.out]; cases getL V' k9 ((nb : Nat) : Int) (lf - 238) <;> simp⟩
              case measure => rw [hB3.out.len, HB.out.len, hlen3]; omega
        · have hA2 : (((pb.size : Nat) : Int) != min ((lf : Nat) : Int) 238) = true := by simp; omega
          have HQ := Lib.hid (hGB.out (by omega))
          clear hGB hGM
          go_wp2_with (first
            | (go_at_call 36; first | ((with_reducible refine (bl_len HB.out).mono ?_); rintro e w' ⟨rfl, rfl⟩) | ((with_reducible refine (bl_len hB1.out).mono ?_); rintro e w' ⟨rfl, rfl⟩))
            | (go_at_call 37; (with_reducible refine HC.out.mono ?_); rintro e w1 ⟨rfl, k1, v1⟩; have hB1 := ((HB.out.kp k1 HF.out).kp (D5.Kp.of0 (F := fun _ => False) (gb_alloc w1 (.cells #[.int .i64 (nb : Nat), .string pb] 66) none)) (fun _ h => h.elim)); have bL := Blk.mk w1 66 #[.int .i64 (nb : Nat), .string pb]; have hB1 := Lib.hid hB1; have k1 := Lib.hid k1; have v1 := Lib.hid v1)
            | fail)
          go_ret2
          exact ⟨by rw [HQ.out]; rfl, (Hk.out.trans k1.out).step0 (gb_alloc _ _ none), (v1.out.keep0 (gb_alloc _ _ none)).more (by omega)⟩
    · obtain rfl : acc.length = len := by omega
      have hlf : acc.length - acc.length = 0 := by omega
      rw [hlf] at hp hr
      have HQ := Lib.hid (show getL V' (need acc.length) first acc.length = some acc by rw [hp]; simp [need, getL])
      have HLv := Lib.hid hLv
      have hr9 : r ≤ 9 := by omega
      clear hp hlf hLv hk hB
      go_wp2_with (first
        | (go_at_call 36; (with_reducible refine (bl_len HB.out).mono ?_); rintro e w' ⟨rfl, rfl⟩)
        | (go_at_call 39; (with_reducible refine (bl_str HB.out hz0).mono ?_); rintro e w3 ⟨rfl, bw3⟩; have bw3 := Lib.hid bw3)
        | fail)
      go_ret2
      exact ⟨by rw [HQ.out]; rfl, kp_far Hk.out (kp_of_below bw3.out), (HLv.out.kp (kp_of_below bw3.out) (fun i hi => by have := HFar.out i hi; omega)).more (by omega)⟩
end Go.Proofs.YtliiooldlooagaaGreatDoor.O12

/-
  What letGo leaves: the pages that were made are dropped, the one made last first; over this seat's translation; conditions: those that each law states.
-/
namespace Go.Proofs.YtliiooldlooagaaGreatDoor.O12
open Go.RowKit Go.Maps Go.Shelf J10
attribute [local go_sem] Oper.semAt_some
theorem delL_perm {V : Pgs} {l m : List Int} (h : ∀ q, q ∈ l ↔ q ∈ m) : delL V l = delL V m := by
  funext q
  unfold delL
  by_cases e : q ∈ l
  · rw [if_pos e, if_pos ((h q).1 e)]
  · rw [if_neg e, if_neg (fun e2 => e ((h q).2 e2))]
theorem kp_keepsFrom {F : Nat → Prop} {B : Nat} {W W' : World} (h : D5.Kp F W W') (hF : ∀ i, F i → i < B) : KeepsFrom B W W' :=
  ⟨h.size, fun k o hk ho _ => (h.block k (Array.getElem?_eq_some_iff.1 ho).1 (fun e => by have := hF k e; omega)).trans ho⟩
/-- What a change of the rounds' own books leaves. -/
theorem Live.own {W W' : World} {base p : Nat} {F : Nat → Prop} {y : Bx} {n : Nat} {g0 : Pg} {V V' : Pgs} {N z B : Nat} {row : Option Nat} (h : Live W base p F y n g0 V V' N z) (g : W.grownBy W' row) (hr : ∀ r, row = some r → B ≤ r) (hF : ∀ i, FX F y i → i < B) : Live W' base p F y n g0 V V' N z :=
  h.kp (G := fun i => B ≤ i) (D5.Kp.of g (fun k e => hr k e)) (fun i hi => by have := hF i hi; omega)
theorem kp_own {F : Nat → Prop} {w W W' : World} {B : Nat} {row : Option Nat} (h : D5.Kp F w W) (g : W.grownBy W' row) (hr : ∀ r, row = some r → B ≤ r) (hB : w.heap.size ≤ B) : D5.Kp F w W' :=
  h.step g (fun j e => .inr (Nat.le_trans hB (hr j e)))
theorem mem_backL {l : List Int} {k : Nat} (h : k ≤ l.length) : (backL l k).map (·.2) = l.reverse.take k := by
  unfold backL
  rw [List.map_map]
  apply List.ext_getElem
  · simp; omega
  · intro i h1 h2
    simp at h1
    simp [List.getD_eq_getElem?_getD, List.getElem?_eq_getElem, show i < l.length by omega]
theorem row_own {W W' : World} {base size n : Nat} {e : TypeId} {v : Value} {xs : List Value} {row : Option Nat} (h : W.ownsRow base e size v n xs) (g : W.grownBy W' row) (hr : ∀ r, row = some r → ∃ o : Obj, W.heap[r]? = some o ∧ o.isCells = false) : W'.ownsRow base e size v n xs := by
  rcases h.2 with ⟨hv, h0⟩ | ⟨q, cap, cur, rfl, _, hq, _⟩
  · exact ⟨h.1, .inl ⟨hv, h0⟩⟩
  · refine h.kept g (Or.inr fun e => ?_)
    obtain ⟨o, ho, hc⟩ := hr q e.symm
    rw [hq] at ho
    cases ho
    cases hc
/-- What stands in letGo between its rounds. -/
structure LG (w : World) (base p : Nat) (F : Nat → Prop) (y : Bx) (n : Nat) (g0 : Pg) (V Vc : Pgs) (N B : Nat) (v : Value) (l : List Int) (pre : List (Int × Int)) (W : World) : Prop where
  box : Blk W w.heap.size 26 #[.pointer (some ⟨y.x, 0, none⟩)]
  row : RowZ B l v W
  held : Blk W (w.heap.size + 1) 40 #[v]
  live : ∃ n' z', n' ≤ n + pre.length ∧ Live W base p F y n' g0 V (delL Vc (pre.map (·.2))) N z'
  kp : D5.Kp (footT y) w W
set_option maxRecDepth 100000 in
set_option maxHeartbeats 4000000 in
theorem letGo_live {w : World} {base p : Nat} {F : Nat → Prop} {y : Bx} {n : Nat} {g0 : Pg} {V Vc : Pgs} {N z B : Nat} (h : Live w base p F y n g0 V Vc N z) (hF : ∀ i, FX F y i → i < B) (hB : B ≤ w.heap.size) {v : Value} {l : List Int} (hR : RowZ B l v w) (hl : l.length ≤ 100) :
    Calls Tryz.prog 25 #[.pointer (some ⟨y.x, 0, none⟩), v] w fun e w' => e = .returned (.tuple #[]) ∧ (∃ n' z', n' ≤ n + l.length ∧ Live w' base p F y n' g0 V (delL Vc l) N z') ∧ D5.Kp (footT y) w w' := by
  obtain ⟨ao, cap, rfl⟩ := hR.shape
  have H0 := Lib.hid h
  have HF := Lib.hid hF
  have HR := Lib.hid hR
  clear h hF hR
  refine (callsIn_wide (n := 5)).1 ?_
  refine callsIn_of_wp_marks Tryz.func25 rfl trivial ?_ rfl
  simp only [Tryz.ntmps25, List.size_toArray, List.length_cons, List.length_nil, Nat.reduceAdd, Nat.reduceSub, Array.replicate_succ, Array.replicate_zero, List.push_toArray, List.append_toArray, List.nil_append, List.cons_append]
  gi_wp2_with (refine ⟨trivial, ?_⟩; gi_at_call 51; (with_reducible refine (callsIn_wide.2 (backward_any _ _ _ _)).mono ?_); rintro e w' ⟨rfl, rfl⟩)
  have b0 := (Blk.mk w 26 #[.pointer (some ⟨y.x, 0, none⟩)]).keep0 (gb_alloc _ (.cells #[.slice ao l.length cap] 40) none)
  have b1 := Blk.mk (w.alloc (.cells #[.pointer (some ⟨y.x, 0, none⟩)] 26)) 40 #[.slice ao l.length cap]
  have gg : w.grownBy ((w.alloc (.cells #[.pointer (some ⟨y.x, 0, none⟩)] 26)).alloc (.cells #[.slice ao l.length cap] 40)) none := gb_trans (gb_alloc _ _ _) (gb_alloc _ _ _)
  have hsz : ((w.alloc (.cells #[.pointer (some ⟨y.x, 0, none⟩)] 26)).alloc (.cells #[.slice ao l.length cap] 40)).heap.size = w.heap.size + 2 := by simp
  simp only [World.size_alloc] at b1
  generalize (w.alloc (.cells #[.pointer (some ⟨y.x, 0, none⟩)] 26)).alloc (.cells #[.slice ao l.length cap] 40) = W0 at b0 b1 gg hsz ⊢
  have hR0 : RowZ B l (.slice ao l.length cap) W0 := HR.out.kp (D5.Kp.of0 (F := fun _ => False) gg) (fun _ h => h.elim)
  have hL0 : LG w base p F y n g0 V Vc N B (.slice ao l.length cap) l [] W0 := ⟨b0, hR0, b1, ⟨n, z, by simp, by rw [List.map_nil, delL_nil]; exact H0.out.keep0 gg⟩, D5.Kp.of0 gg⟩
  have HL0 := Lib.hid hL0
  have hFT : ∀ i, footT y i → i < B := fun i hi => HF.out i (FX.foot hi)
  refine wpIn_rangeFunc_ownG (a₁ := ?fr) rfl (by omega) (gf := 88) (lb := #[.pointer (some ⟨w.heap.size + 1, 0, none⟩)]) rfl trivial (enters_of Tryz.func88 (by kernel_rfl) rfl)
    (backward_stops _ (by omega) (w.heap.size + 1) (.slice ao l.length cap) l (by omega) W0 ⟨b1.cell 0 rfl, Sl.of_owns hR0⟩) keepI_t keepI_b (Below.refl _ _) (fun _ => rfl)
    (fun pre W => LG w base p F y n g0 V Vc N B (.slice ao l.length cap) l pre W) (fun _ _ _ => False)
    (fun pre W W' row h g hr => by
      have hr2 : ∀ r, row = some r → w.heap.size + 2 ≤ r := fun r e => by have := (hr r e).1; omega
      obtain ⟨h1, h2, h3, ⟨n', z', h4, h5⟩, h6⟩ := h
      exact ⟨h1.keep g (fun e => by have := hr2 _ e.symm; omega), row_own h2 g (fun r e => (hr r e).2), h3.keep g (fun e => by have := hr2 _ e.symm; omega), ⟨n', z', h4, h5.own g hr2 (fun i hi => by have := HF.out i hi; omega)⟩, kp_own h6 g hr2 (by omega)⟩)
    (fun _ _ _ _ _ h _ _ => h)
    hL0 ?assign ?body ?done ?stop
  case assign =>
    intro l x W K hK
    gi_wp2
    exact hK
  case body =>
    rintro q pre x W hL hpl
    obtain ⟨h1, h2, h3, ⟨n', z', h4, h5⟩, h6⟩ := hL
    have c0 := h1.cell 0 rfl
    have HD := Lib.hid (dropAny_live h5 x.2)
    have H1 := Lib.hid h1
    have H2 := Lib.hid h2
    have H3 := Lib.hid h3
    have H6 := Lib.hid h6
    clear h1 h2 h3 h5 h6
    gi_wp2_with (refine ⟨trivial, ?_⟩; gi_at_call 19; (with_reducible refine (D5.callsIn_round HD.out).mono ?_); rintro e w2 ⟨⟨c, rfl⟩, n2, z2, hn2, v2, k2⟩; have v2 := Lib.hid v2; have k2 := Lib.hid k2)
    have hR2 := H2.out.kp k2.out hFT
    have hB2 := k2.out.blk H3.out (fun e => by have := hFT _ e; omega)
    refine ⟨kp_keepsFrom k2.out (fun i hi => by have := hFT i hi; omega), fun _ => ⟨hB2.cell 0 rfl, Sl.of_owns hR2⟩, k2.out.blk H1.out (fun e => by have := hFT _ e; omega), hR2, hB2, ⟨n2, z2, by simp; omega, ?_⟩, H6.out.trans k2.out⟩
    rw [List.map_append, List.map_cons, List.map_nil, ← delL_snoc]
    exact v2.out
  case done =>
    rintro D ys W hD hys ⟨h1, h2, h3, ⟨n', z', h4, h5⟩, h6⟩ hK
    subst hys
    rw [mem_backL (Nat.le_refl _), List.take_of_length_le (by simp), delL_perm (m := l) (fun q => List.mem_reverse)] at h5
    rw [backL_length] at h4
    have hr : ∀ r, some D = some r → w.heap.size ≤ r := fun r e => by cases e; omega
    refine ⟨by simp, .inl ⟨_, _, rfl, run_takeDeferred hK, ?_⟩⟩
    refine ⟨_, results_none rfl _ _ _, ?_⟩
    exact ⟨rfl, ⟨n', z', h4, h5.own (grownBy_putObj' _ D _) hr (fun i hi => by have := HF.out i hi; omega)⟩, kp_own h6 (grownBy_putObj' _ D _) hr (Nat.le_refl _)⟩
  case stop =>
    rintro D c pre W hD _ hf _
    exact hf.elim
end Go.Proofs.YtliiooldlooagaaGreatDoor.O12

/-
  Put of texts that may not be; what Put lets go at its end; pieces as a chain; over this seat's translation; conditions: those that each law states.
-/
namespace Go.Proofs.YtliiooldlooagaaGreatDoor.O12
open Go.RowKit Go.Maps Go.Shelf J10
attribute [local go_sem] Oper.semAt_some
theorem not_empty {s : ByteArray} (h : 0 < s.size) : s.toList.isEmpty = false := by
  rw [ByteArray.toList_eq, List.isEmpty_eq_false_iff]
  intro e
  have : s.data.toList.length = 0 := by rw [e]; rfl
  rw [Array.length_toList] at this
  have h' : 0 < s.data.size := h
  omega
theorem put_empty {t : Option Addr} (w : World) : Calls Tryz.prog 9 #[.pointer t, .string ⟨#[]⟩] w fun e w' => e = .returned (.tuple #[.int .i64 0, .int .i64 2]) ∧ w.grownBy w' none := by
  go_enter Tryz.func9, Tryz.ntmps9
  go_wp2
  have g1 := gb_alloc w (.cells #[.pointer t] 26) none
  have g2 := gb_alloc (w.alloc (.cells #[.pointer t] 26)) (.cells #[.int .i64 0] 3) none
  have g3 := gb_alloc ((w.alloc (.cells #[.pointer t] 26)).alloc (.cells #[.int .i64 0] 3)) (.cells #[.int .i64 2] 33) none
  have b1 := (Blk.mk (w.alloc (.cells #[.pointer t] 26)) 3 #[.int .i64 0]).keep0 g3
  have b2 := Blk.mk ((w.alloc (.cells #[.pointer t] 26)).alloc (.cells #[.int .i64 0] 3)) 33 #[.int .i64 2]
  simp only [World.size_alloc] at b1 b2
  exact bodyPost_ret (T9.two_rows rfl _ _ (w.heap.size + 1) (w.heap.size + 1 + 1) _ _ rfl rfl b1 b2) rfl ⟨rfl, gb_trans (gb_trans g1 g2) g3⟩
theorem put_long {t : Option Addr} (w : World) (s : ByteArray) (h : 2000 < s.size) : Calls Tryz.prog 9 #[.pointer t, .string s] w fun e w' => e = .returned (.tuple #[.int .i64 0, .int .i64 4]) ∧ w.grownBy w' none := by
  have hne := not_empty (s := s) (by omega)
  have hi : (2000 : Int) < (s.size : Int) := by omega
  go_enter Tryz.func9, Tryz.ntmps9
  go_wp2
  have g1 := gb_alloc w (.cells #[.pointer t] 26) none
  have g2 := gb_alloc (w.alloc (.cells #[.pointer t] 26)) (.cells #[.int .i64 0] 3) none
  have g3 := gb_alloc ((w.alloc (.cells #[.pointer t] 26)).alloc (.cells #[.int .i64 0] 3)) (.cells #[.int .i64 4] 33) none
  have b1 := (Blk.mk (w.alloc (.cells #[.pointer t] 26)) 3 #[.int .i64 0]).keep0 g3
  have b2 := Blk.mk ((w.alloc (.cells #[.pointer t] 26)).alloc (.cells #[.int .i64 0] 3)) 33 #[.int .i64 4]
  simp only [World.size_alloc] at b1 b2
  exact bodyPost_ret (T9.two_rows rfl _ _ (w.heap.size + 1) (w.heap.size + 1 + 1) _ _ rfl rfl b1 b2) rfl ⟨rfl, gb_trans (gb_trans g1 g2) g3⟩
/-- A chain of pieces. -/
def ChP (V : Pgs) : List Int → List Pc → Prop
  | [], [] => True
  | p :: ps, x :: xs => (1 ≤ p ∧ p ≤ 960) ∧ V p = some (2, bodyB (hd ps) x.1.data.toList) ∧ ChP V ps xs
  | _, _ => False
theorem ChP.frame : ∀ {ps : List Int} {xs : List Pc} {V W : Pgs}, ChP V ps xs → (∀ q ∈ ps, W q = V q) → ChP W ps xs
  | [], [], _, _, _, _ => trivial
  | p :: ps, x :: xs, V, W, ⟨h1, h2, h3⟩, he => ⟨h1, (he p (List.mem_cons_self ..)).trans h2, h3.frame fun q hq => he q (List.mem_cons_of_mem _ hq)⟩
  | [], _ :: _, _, _, h, _ => h.elim
  | _ :: _, [], _, _, h, _ => h.elim
theorem ChP.stands : ∀ {ps : List Int} {xs : List Pc} {V : Pgs}, ChP V ps xs → ∀ q ∈ ps, V q ≠ none ∧ 1 ≤ q ∧ q ≤ 960
  | [], [], _, _, q, hq => by cases hq
  | p :: ps, x :: xs, V, ⟨h1, h2, h3⟩, q, hq => by
    rcases List.mem_cons.1 hq with rfl | hq
    · exact ⟨by rw [h2]; exact fun e => (by cases e), h1⟩
    · exact h3.stands q hq
  | [], _ :: _, _, h, _, _ => h.elim
  | _ :: _, [], _, h, _, _ => h.elim
theorem ChP.hd_le {ps : List Int} {xs : List Pc} {V : Pgs} (h : ChP V ps xs) : hd ps ≤ 960 := by
  cases ps with
  | nil => exact Nat.zero_le _
  | cons p ps =>
    have := h.stands p (List.mem_cons_self ..)
    show p.toNat ≤ 960
    omega
theorem ChP.cons {ps : List Int} {xs : List Pc} {V : Pgs} (h : ChP V ps xs) {p : Int} (h1 : 1 ≤ p) (h2 : p ≤ 960) (hp : V p = none) (x : Pc) : ChP (upd V p (2, bodyB (hd ps) x.1.data.toList)) (p :: ps) (x :: xs) :=
  ⟨⟨h1, h2⟩, upd_same .., h.frame fun q hq => upd_off _ _ (fun e => (h.stands q hq).1 (e ▸ hp))⟩
theorem pieceAt_list (s : ByteArray) (i : Nat) : (pieceAt s i).1.data.toList = (s.data.toList.drop (i * 238)).take 238 := by
  show (s.extract (i * 238) (min ((i + 1) * 238) s.size)).data.toList = _
  rw [C7.extract_list, List.drop_take]
  have hl : s.data.toList.length = s.size := Array.length_toList
  apply List.ext_getElem?
  intro j
  by_cases h1 : j < min ((i + 1) * 238) s.size - i * 238
  · rw [List.getElem?_take_of_lt h1, List.getElem?_take_of_lt (by omega)]
  · rw [List.getElem?_take_eq_none (by omega)]
    by_cases h2 : j < 238
    · rw [List.getElem?_take_of_lt h2, List.getElem?_eq_none (by rw [List.length_drop, hl]; omega)]
    · rw [List.getElem?_take_eq_none (by omega)]
/-- All pieces of a text are a chain of it. -/
theorem ChP.text {s : ByteArray} {V : Pgs} : ∀ (k : Nat) (ps : List Int), k ≤ need s.size → ChP V ps (preL s k).reverse → Ch V ps (s.data.toList.drop ((need s.size - k) * 238))
  | 0, ps, _, h => by
    have hl : s.data.toList.length = s.size := Array.length_toList
    have hn : s.size ≤ need s.size * 238 := by unfold need; omega
    cases ps with
    | nil => exact List.drop_eq_nil_of_le (by rw [hl]; simpa using hn)
    | cons p ps => exact h.elim
  | k + 1, ps, hk, h => by
    have hl : s.data.toList.length = s.size := Array.length_toList
    have hn : need s.size * 238 < s.size + 238 := by unfold need; omega
    rw [preL_snoc, List.reverse_append] at h
    cases ps with
    | nil => exact h.elim
    | cons p ps =>
      obtain ⟨h1, h2, h3⟩ := h
      have ih := h3.text k ps (by omega)
      obtain ⟨q, hq⟩ : ∃ q, need s.size - (k + 1) = q := ⟨_, rfl⟩
      have hq1 : need s.size - 1 - k = q := by omega
      have hq2 : need s.size - k = q + 1 := by omega
      rw [hq]
      rw [hq1, pieceAt_list] at h2
      rw [hq2] at ih
      refine ⟨?_, h1, h2, ?_⟩
      · intro e
        have := congrArg List.length e
        rw [List.length_drop, hl] at this
        have e2 : ([] : List UInt8).length = 0 := rfl
        rw [e2] at this
        omega
      · rw [List.drop_drop, show q * 238 + 238 = (q + 1) * 238 by omega]
        exact ih
/-- What Put lets go at its end: nothing, if all went well. -/
theorem end_ok {w : World} {n a b c : Nat} (h : w.cell? ⟨a, 0, none⟩ = some (.int .i64 0)) :
    CallsDIn Fence.wide n Tryz.prog 24 #[.pointer (some ⟨a, 0, none⟩), .pointer (some ⟨b, 0, none⟩), .pointer (some ⟨c, 0, none⟩)] .returning w fun e u w' => u = .returning ∧ e = .returned (.tuple #[]) ∧ w = w' := by
  refine callsDIn_of_wp Tryz.func24 rfl trivial ?_ rfl
  simp only [Tryz.ntmps24, List.size_toArray, List.length_cons, List.length_nil, Nat.reduceAdd, Nat.reduceSub, Array.replicate_succ, Array.replicate_zero, List.push_toArray, List.append_toArray, List.nil_append, List.cons_append]
  gi_wp2
  exact bodyPost_end (results_none rfl _ _ _) rfl ⟨rfl, rfl⟩
theorem end_no {w : World} {n a b c : Nat} (hn : 1 ≤ n) {e0 : Int} {v pt : Value} (h : w.cell? ⟨a, 0, none⟩ = some (.int .i64 e0)) (h0 : e0 ≠ 0) (hb : w.cell? ⟨b, 0, none⟩ = some pt) (hc : w.cell? ⟨c, 0, none⟩ = some v) {R : World → Prop}
    (hL : Calls Tryz.prog 25 #[pt, v] w fun e w' => e = .returned (.tuple #[]) ∧ R w') :
    CallsDIn Fence.wide n Tryz.prog 24 #[.pointer (some ⟨a, 0, none⟩), .pointer (some ⟨b, 0, none⟩), .pointer (some ⟨c, 0, none⟩)] .returning w fun e u w' => u = .returning ∧ e = .returned (.tuple #[]) ∧ R w' := by
  have HL := Lib.hid hL
  have hne : (e0 != 0) = true := by simpa using h0
  clear hL
  refine callsDIn_of_wp Tryz.func24 rfl trivial ?_ rfl
  simp only [Tryz.ntmps24, List.size_toArray, List.length_cons, List.length_nil, Nat.reduceAdd, Nat.reduceSub, Array.replicate_succ, Array.replicate_zero, List.push_toArray, List.append_toArray, List.nil_append, List.cons_append]
  gi_wp2_with (refine ⟨trivial, ?_⟩; gi_at_call 25; (with_reducible refine (callsIn_wide.2 HL.out).mono ?_); rintro e w' ⟨rfl, hR⟩; have hR := Lib.hid hR)

  exact bodyPost_end (results_none rfl _ _ _) rfl ⟨rfl, hR.out⟩
end Go.Proofs.YtliiooldlooagaaGreatDoor.O12

/-
  What Put answers and leaves, of any text; over this seat's translation; conditions: those that each law states.
-/
namespace Go.Proofs.YtliiooldlooagaaGreatDoor.O12
open Go.RowKit Go.Maps Go.Shelf J10
attribute [local go_sem] Oper.semAt_some
theorem countP_add {α : Type} (f g h : α → Bool) : ∀ l : List α, (∀ a ∈ l, h a = (f a || g a)) → (∀ a ∈ l, ¬ (f a = true ∧ g a = true)) → l.countP h = l.countP f + l.countP g
  | [], _, _ => rfl
  | a :: l, h1, h2 => by
    have ih := countP_add f g h l (fun b hb => h1 b (List.mem_cons_of_mem _ hb)) (fun b hb => h2 b (List.mem_cons_of_mem _ hb))
    have e1 := h1 a (List.mem_cons_self ..)
    have e2 := h2 a (List.mem_cons_self ..)
    rw [List.countP_cons, List.countP_cons, List.countP_cons, ih, e1]
    cases hf : f a <;> cases hg : g a
    · simp
    · simp; omega
    · simp; omega
    · exact absurd ⟨hf, hg⟩ e2
theorem cnt_upd {V : Pgs} {p : Int} (h0 : V p = none) (h1 : 1 ≤ p) (h2 : p ≤ 960) (x : Nat × ByteArray) : cntV (upd V p x) = cntV V + 1 := by
  obtain ⟨j0, rfl⟩ : ∃ j0 : Nat, p = (j0 : Int) + 1 := ⟨(p - 1).toNat, by omega⟩
  have hj : j0 < 960 := by omega
  have e : (List.range 960).countP (fun j => j == j0) = 1 := by
    show List.count j0 (List.range 960) = 1
    rw [(List.nodup_range (n := 960)).count, if_pos (List.mem_range.2 hj)]
  unfold cntV
  rw [countP_add (fun j : Nat => (V ((j : Int) + 1)).isSome) (fun j => j == j0) _ _ (fun j _ => ?_) (fun j _ => ?_), e]
  · unfold upd
    by_cases e : j = j0
    · subst e; simp
    · rw [if_neg (by omega)]; simp [e]
  · rintro ⟨a, b⟩
    have : j = j0 := by simpa using b
    subst this
    rw [h0] at a
    cases a
theorem Live.base_le {w : World} {base p : Nat} {F : Nat → Prop} {y : Bx} {n : Nat} {g0 : Pg} {V V' : Pgs} {N z : Nat} (h : Live w base p F y n g0 V V' N z) : ∀ i, footT y i → base ≤ i := by
  obtain ⟨k, g, T, h1, h2, h3, h4, h5, h6⟩ := h
  exact fun i hi => h4.ge i (.inr (.inr hi))
/-- Pages that were the lowest ones when they were made, the last one first. -/
def LowM (V : Pgs) : List Int → Prop
  | [] => True
  | p :: ps => (∀ r : Int, 1 ≤ r → r < p → V r ≠ none ∨ r ∈ ps) ∧ LowM V ps
/-- What stands in Put between its rounds. -/
structure PI (w : World) (base p : Nat) (F : Nat → Prop) (y : Bx) (n : Nat) (g0 : Pg) (V V' : Pgs) (N z : Nat) (s : ByteArray) (c : Int) (pre : List Pc) (W : World) : Prop where
  bT : Blk W w.heap.size 26 #[.pointer (some ⟨y.x, 0, none⟩)]
  bF : Blk W (w.heap.size + 1) 3 #[.int .i64 0]
  bE : Blk W (w.heap.size + 2) 33 #[.int .i64 c]
  bS : Blk W (w.heap.size + 5) 9 #[.string s]
  rest : ∃ (ps : List Int) (Vc : Pgs) (n' : Nat) (v : Value), ps.length = pre.length ∧ (Made V' Vc ps ∧ LowM V' ps) ∧ ChP Vc ps pre.reverse ∧ n' ≤ n + 10 ∧ Live W base p F y n' g0 V Vc N (z - pre.length) ∧ pre.length ≤ z ∧
    Blk W (w.heap.size + 3) 40 #[v] ∧ RowZ (w.heap.size + 6) ps.reverse v W ∧ (∃ pv, Blk W (w.heap.size + 4) 3 #[pv] ∧ (c = 0 → n' ≤ n + pre.length ∧ pv = .int .i64 (hd ps : Nat))) ∧ cntV Vc = cntV V' + ps.length ∧
    (c = 0 ∨ c = 11 ∧ z = pre.length ∨ c = 15 ∧ cntV Vc = 960)
  kp : D5.Kp (footT y) w W
theorem PI.own {w : World} {base p : Nat} {F : Nat → Prop} {y : Bx} {n : Nat} {g0 : Pg} {V V' : Pgs} {N z : Nat} {s : ByteArray} {c : Int} {pre : List Pc} {W W' : World} {row : Option Nat} (h : PI w base p F y n g0 V V' N z s c pre W) (hF : ∀ i, FX F y i → i < w.heap.size) (g : W.grownBy W' row)
    (hr : ∀ r, row = some r → w.heap.size + 6 ≤ r ∧ ∃ o : Obj, W.heap[r]? = some o ∧ o.isCells = false) : PI w base p F y n g0 V V' N z s c pre W' := by
  have hr2 : ∀ r, row = some r → w.heap.size + 6 ≤ r := fun r e => (hr r e).1
  have kb : ∀ {k t vs}, Blk W k t vs → k < w.heap.size + 6 → Blk W' k t vs := fun h hk => h.keep g (fun e => by have := hr2 _ e.symm; omega)
  obtain ⟨h1, h2, h3, h4, ⟨ps, Vc, n', v, r1, r2, r3, r4, r5, r6, r7, r8, ⟨pv, r9, r10⟩, r11, r12⟩, h6⟩ := h
  exact ⟨kb h1 (by omega), kb h2 (by omega), kb h3 (by omega), kb h4 (by omega), ⟨ps, Vc, n', v, r1, r2, r3, r4, r5.own g hr2 (fun i hi => by have := hF i hi; omega), r6, kb r7 (by omega), row_own r8 g (fun r e => (hr r e).2), ⟨pv, kb r9 (by omega), r10⟩, r11, r12⟩, kp_own h6 g hr2 (by omega)⟩
def PutG (w : World) (base p : Nat) (F : Nat → Prop) (y : Bx) (n : Nat) (g0 : Pg) (V V' : Pgs) (N z : Nat) (s : ByteArray) (e : Ending) (w' : World) : Prop :=
  ∃ n', n' ≤ n + 30 ∧ D5.Kp (footT y) w w' ∧
    ((∃ ps Vc, e = .returned (.tuple #[.int .i64 (hd ps : Nat), .int .i64 0]) ∧ (Made V' Vc ps ∧ LowM V' ps) ∧ Ch Vc ps s.data.toList ∧ Live w' base p F y n' g0 V Vc N (z - ps.length) ∧ ps.length ≤ z ∧ cntV Vc = cntV V' + ps.length) ∨
     (e = .returned (.tuple #[.int .i64 0, .int .i64 11]) ∧ z < need s.size ∧ ∃ z', Live w' base p F y n' g0 V V' N z') ∨
     (e = .returned (.tuple #[.int .i64 0, .int .i64 15]) ∧ 960 < cntV V' + need s.size ∧ ∃ z', Live w' base p F y n' g0 V V' N z'))
set_option maxRecDepth 100000 in
set_option maxHeartbeats 8000000 in
theorem put_live {w : World} {base p : Nat} {F : Nat → Prop} {y : Bx} {n : Nat} {g0 : Pg} {V V' : Pgs} {N z : Nat} (h : Live w base p F y n g0 V V' N z) (hF : ∀ i, F i → i < w.heap.size) (hE : Env w) (b5 : 4 ≤ base) (hn : n < 900000) {s : ByteArray} (hs1 : 1 ≤ s.size) (hs2 : s.size ≤ 2000) :
    Calls Tryz.prog 9 #[.pointer (some ⟨y.x, 0, none⟩), .string s] w (PutG w base p F y n g0 V V' N z s) := by
  obtain ⟨l1, l2, l3, l4⟩ := h.lt
  have hfar : ∀ i, FX F y i → i < w.heap.size := fun i hi => by
    rcases hi with hi | rfl | rfl | rfl | rfl
    · exact hF i hi
    all_goals omega
  have HFar := Lib.hid hfar
  have H0 := Lib.hid h
  have hne := not_empty (s := s) (by omega)
  have hlo : ((2000 : Int) < (s.size : Int)) = False := by simp; omega
  have HE := Lib.hid hE
  have hm9 := need_le hs2
  obtain ⟨i0, hi, hz0, hz1, hz2⟩ := info_parts T9.Tryz.infoInt
  clear h hF hfar l1 l2 l3 l4 hE
  refine (callsIn_wide (n := 6)).1 ?_
  refine callsIn_of_wp_marks Tryz.func9 rfl trivial ?_ rfl
  simp only [Tryz.ntmps9, List.size_toArray, List.length_cons, List.length_nil, Nat.reduceAdd, Nat.reduceSub, Array.replicate_succ, Array.replicate_zero, List.push_toArray, List.append_toArray, List.nil_append, List.cons_append]
  gi_wp2_with (refine ⟨trivial, ?_⟩; gi_at_call 26; (with_reducible refine (callsIn_wide.2 (pieces_any s _)).mono ?_); rintro e w' ⟨rfl, rfl⟩)
  simp only [Nat.add_assoc, Nat.reduceAdd]
  have bT := (((((Blk.mk w 26 #[.pointer (some ⟨y.x, 0, none⟩)]).keep0 (gb_alloc _ (.cells #[.int .i64 0] 3) none)).keep0 (gb_alloc _ (.cells #[.int .i64 0] 33) none)).keep0 (gb_alloc _ (.cells #[.slice none 0 0] 40) none)).keep0 (gb_alloc _ (.cells #[.int .i64 0] 3) none)).keep0 (gb_alloc _ (.cells #[.string s] 9) none)
  have bF := ((((Blk.mk (w.alloc (.cells #[.pointer (some ⟨y.x, 0, none⟩)] 26)) 3 #[.int .i64 0]).keep0 (gb_alloc _ (.cells #[.int .i64 0] 33) none)).keep0 (gb_alloc _ (.cells #[.slice none 0 0] 40) none)).keep0 (gb_alloc _ (.cells #[.int .i64 0] 3) none)).keep0 (gb_alloc _ (.cells #[.string s] 9) none)
  have bE := (((Blk.mk ((w.alloc (.cells #[.pointer (some ⟨y.x, 0, none⟩)] 26)).alloc (.cells #[.int .i64 0] 3)) 33 #[.int .i64 0]).keep0 (gb_alloc _ (.cells #[.slice none 0 0] 40) none)).keep0 (gb_alloc _ (.cells #[.int .i64 0] 3) none)).keep0 (gb_alloc _ (.cells #[.string s] 9) none)
  have bM := ((Blk.mk (((w.alloc (.cells #[.pointer (some ⟨y.x, 0, none⟩)] 26)).alloc (.cells #[.int .i64 0] 3)).alloc (.cells #[.int .i64 0] 33)) 40 #[.slice none 0 0]).keep0 (gb_alloc _ (.cells #[.int .i64 0] 3) none)).keep0 (gb_alloc _ (.cells #[.string s] 9) none)
  have bP := (Blk.mk ((((w.alloc (.cells #[.pointer (some ⟨y.x, 0, none⟩)] 26)).alloc (.cells #[.int .i64 0] 3)).alloc (.cells #[.int .i64 0] 33)).alloc (.cells #[.slice none 0 0] 40)) 3 #[.int .i64 0]).keep0 (gb_alloc _ (.cells #[.string s] 9) none)
  have bS := Blk.mk (((((w.alloc (.cells #[.pointer (some ⟨y.x, 0, none⟩)] 26)).alloc (.cells #[.int .i64 0] 3)).alloc (.cells #[.int .i64 0] 33)).alloc (.cells #[.slice none 0 0] 40)).alloc (.cells #[.int .i64 0] 3)) 9 #[.string s]
  have gg : w.grownBy ((((((w.alloc (.cells #[.pointer (some ⟨y.x, 0, none⟩)] 26)).alloc (.cells #[.int .i64 0] 3)).alloc (.cells #[.int .i64 0] 33)).alloc (.cells #[.slice none 0 0] 40)).alloc (.cells #[.int .i64 0] 3)).alloc (.cells #[.string s] 9)) none := gb_trans (gb_trans (gb_trans (gb_trans (gb_trans (gb_alloc _ _ _) (gb_alloc _ _ _)) (gb_alloc _ _ _)) (gb_alloc _ _ _)) (gb_alloc _ _ _)) (gb_alloc _ _ _)
  have hsz : ((((((w.alloc (.cells #[.pointer (some ⟨y.x, 0, none⟩)] 26)).alloc (.cells #[.int .i64 0] 3)).alloc (.cells #[.int .i64 0] 33)).alloc (.cells #[.slice none 0 0] 40)).alloc (.cells #[.int .i64 0] 3)).alloc (.cells #[.string s] 9)).heap.size = w.heap.size + 6 := by simp
  simp only [World.size_alloc, Nat.add_assoc, Nat.reduceAdd] at bT bF bE bM bP bS
  generalize ((((((w.alloc (.cells #[.pointer (some ⟨y.x, 0, none⟩)] 26)).alloc (.cells #[.int .i64 0] 3)).alloc (.cells #[.int .i64 0] 33)).alloc (.cells #[.slice none 0 0] 40)).alloc (.cells #[.int .i64 0] 3)).alloc (.cells #[.string s] 9)) = W0 at bT bF bE bM bP bS gg hsz ⊢
  have hI0 : PI w base p F y n g0 V V' N z s 0 [] W0 := ⟨bT, bF, bE, bS, ⟨[], V', n, .slice none 0 0, rfl, ⟨Made.nil V', trivial⟩, trivial, by omega, by simpa using H0.out.keep0 gg, by simp, bM, World.ownsRow_nil _ _ _ _, ⟨_, bP, fun _ => ⟨by simp, rfl⟩⟩, by simp, .inl rfl⟩, D5.Kp.of0 gg⟩
  refine wpIn_rangeFunc_ownG (a₁ := ?fr) rfl (by omega) (gf := 52) (lb := #[.pointer (some ⟨w.heap.size + 5, 0, none⟩)]) rfl trivial (enters_of Tryz.func52 (by kernel_rfl) rfl)
    (pieces_stops _ (by omega) (w.heap.size + 5) s hs2 W0 (by omega) (bS.cell 0 rfl)) C7.same_t C7.same_b (Below.refl _ _) (fun _ => rfl)
    (fun pre W => PI w base p F y n g0 V V' N z s 0 pre W) (fun c pre W => c = Code.ret ∧ ∃ pr x cd, pre = pr ++ [x] ∧ cd ≠ 0 ∧ PI w base p F y n g0 V V' N z s cd pr W)
    (fun pre W W' row h g hr => h.own HFar.out g (fun r e => ⟨by have := (hr r e).1; omega, (hr r e).2⟩))
    (fun c pre W W' row h g hr => by
      obtain ⟨e1, pr, x, cd, e2, e3, h⟩ := h
      exact ⟨e1, pr, x, cd, e2, e3, h.own HFar.out g (fun r e => ⟨by have := (hr r e).1; omega, (hr r e).2⟩)⟩)
    hI0 ?assign ?body ?done ?stop
  case assign =>
    intro l x W K hK
    gi_wp2
    exact hK
  case body =>
    rintro q pre x W hI hpl
    obtain ⟨iT, iF, iE, iS, ⟨ps, Vc, n', v, r1, r2, r3, r4, r5, r6, r7, r8, ⟨pv, r9, r10⟩, r11, r12⟩, ik⟩ := hI
    obtain ⟨r13, rfl⟩ := r10 rfl
    have hx := x.2
    have hhd := r3.hd_le
    have hbz : (bodyB (hd ps) x.1.data.toList).size ≤ 240 := by rw [bodyB_size, Array.length_toList]; show x.1.size + 2 ≤ 240; omega
    have hEW : Env W := HE.out.kp ik (fun i hi => Nat.le_trans b5 (H0.out.base_le i hi))
    have hNew : ∀ W1, W.grownBy W1 none → Calls Tryz.prog 27 #[.pointer (some ⟨y.x, 0, none⟩), .int .i64 2, .string (bodyB (hd ps) x.1.data.toList)] W1 fun e w' => ∃ (qn : Int) (cn : Int) (n2 : Nat), e = .returned (.tuple #[.int .i64 qn, .int .i64 cn]) ∧ n2 ≤ n' + 1 ∧ D5.Kp (footT y) W w' ∧
        ((cn = 0 ∧ Vc qn = none ∧ 1 ≤ qn ∧ qn ≤ 960 ∧ Live w' base p F y n2 g0 V (upd Vc qn (2, bodyB (hd ps) x.1.data.toList)) N (z - pre.length - 1) ∧ 0 < z - pre.length ∧ ∀ r : Int, 1 ≤ r → r < qn → Vc r ≠ none) ∨
         (cn = 11 ∧ Live w' base p F y n2 g0 V Vc N (z - pre.length) ∧ z - pre.length = 0) ∨ (cn = 15 ∧ Live w' base p F y n2 g0 V Vc N (z - pre.length) ∧ cntV Vc = 960)) := by
      intro W1 g1
      refine (new_live (kd := 2) (r5.keep0 g1) (hEW.tab.keep0 g1) (by omega) (by omega) (by omega) hbz 2 rfl).mono fun e w' hh => ?_
      obtain ⟨n2, k1, k2, hc⟩ := hh
      rcases hc with ⟨qn, e1, e2, e3, e4, e5, e6, e7⟩ | ⟨e1, e2, e3⟩ | ⟨e1, e2, e3⟩
      · exact ⟨qn, 0, n2, e1, k1, (D5.Kp.of0 g1).trans k2, .inl ⟨rfl, e2, e3, e4, e5, e6, e7⟩⟩
      · exact ⟨0, 11, n2, e1, k1, (D5.Kp.of0 g1).trans k2, .inr (.inl ⟨rfl, e2, e3⟩)⟩
      · exact ⟨0, 15, n2, e1, k1, (D5.Kp.of0 g1).trans k2, .inr (.inr ⟨rfl, e2, e3⟩)⟩
    have HN := Lib.hid hNew
    have HBdy := Lib.hid (fun w => body_any (hd ps) x.1 w (by omega) (by omega))
    have hFT : ∀ i, footT y i → i < w.heap.size := fun i hi => HFar.out i (FX.foot hi)
    obtain ⟨bd, hbd⟩ : ∃ bd, bodyB (hd ps) x.1.data.toList = bd := ⟨_, rfl⟩
    rw [hbd] at HN HBdy
    have cT := iT.cell 0 rfl
    have cP := r9.cell 0 rfl
    clear r10 r12 hNew
    gi_wp2
    refine wpIn_region_round (S := fun w' => w'.cell? ⟨w.heap.size, 0, none⟩ = some (.pointer (some ⟨y.x, 0, none⟩))) (by kernel_rfl) (by kernel_rfl) cT (fun hHeld => ?_) (by rintro ⟨_, _, h⟩; exact h)
    refine wpAnyH_take (i := 0) (v := ?_) (List.getElem?_toArray.trans rfl) (by kernel_rfl) (by kernel_rfl) (by kernel_rfl) (fun _ _ _ h => h) (Or.inl ⟨by rfl, ?_⟩) hHeld ?_
    rotate_left
    · intro w' hSw; go_simp; try with_reducible rfl
    try simp only [Act.put, List.setIfInBounds_toArray, List.set_cons_zero, List.set_cons_succ]
    refine wpAnyH_take (i := 2) (v := ?_) (List.getElem?_toArray.trans rfl) (by kernel_rfl) (by kernel_rfl) (by kernel_rfl) (fun _ _ _ h => h) (Or.inl ⟨by rfl, ?_⟩) hHeld ?_
    rotate_left
    · intro w' hSw; go_simp; try with_reducible rfl
    try simp only [Act.put, List.setIfInBounds_toArray, List.set_cons_zero, List.set_cons_succ]
    refine wpAnyH_ready (rs := [1]) (by kernel_rfl) (by simp) ?_
    refine AllReadyH.cons (List.getElem?_toArray.trans rfl) (fun K hK => ?_) AllReadyH.nil
    go_simp
    refine hK.out _ _ (hHeld) (fun hHeld => ?_)
    clear hK K
    try simp only [Act.put, List.setIfInBounds_toArray, List.set_cons_zero, List.set_cons_succ]
    refine wpAnyH_take (i := 3) (v := ?_) (List.getElem?_toArray.trans rfl) (by kernel_rfl) (by kernel_rfl) (by kernel_rfl) (fun _ _ _ h => h) (Or.inl ⟨by rfl, ?_⟩) hHeld ?_
    rotate_left
    · intro w' hSw; go_simp; try with_reducible rfl
    try simp only [Act.put, List.setIfInBounds_toArray, List.set_cons_zero, List.set_cons_succ]
    refine wpAnyH_ready (rs := [4]) (by kernel_rfl) (by simp) ?_
    refine AllReadyH.cons (List.getElem?_toArray.trans rfl) (fun K hK => ?_) AllReadyH.nil
    go_simp
    go_at_call 28
    (with_reducible refine (HBdy.out _).mono ?_)
    rintro e u1 ⟨rfl, gb1⟩
    refine hK.out _ _ ((iT.keep0 (gb_trans (gb_drew W none) gb1)).cell 0 rfl) (fun hHeld => ?_)
    clear hK K
    try simp only [Act.put, List.setIfInBounds_toArray, List.set_cons_zero, List.set_cons_succ]
    refine wpAnyH_ready (rs := [5]) (by kernel_rfl) (by simp) ?_
    refine AllReadyH.cons (List.getElem?_toArray.trans rfl) (fun K hK => ?_) AllReadyH.nil
    go_simp
    go_at_call 27
    (with_reducible refine (HN.out _ (gb_trans (gb_drew W none) gb1)).mono ?_)
    rintro e u2 ⟨qn, cn, n2, rfl, hn2, k2, hcase⟩
    refine hK.out _ _ ((k2.blk iT (fun e => Nat.lt_irrefl _ (hFT _ e))).cell 0 rfl) (fun hHeld => ?_)
    clear hK K
    try simp only [Act.put, List.setIfInBounds_toArray, List.set_cons_zero, List.set_cons_succ]
    refine wpAnyH_take (i := 6) (v := ?_) (List.getElem?_toArray.trans rfl) (by kernel_rfl) (by kernel_rfl) (by kernel_rfl) (fun _ _ _ h => h) (Or.inl ⟨by rfl, ?_⟩) hHeld ?_
    rotate_left
    · intro w' hSw; go_simp; try with_reducible rfl
    try simp only [Act.put, List.setIfInBounds_toArray, List.set_cons_zero, List.set_cons_succ]
    refine wpAnyH_take (i := 7) (v := ?_) (List.getElem?_toArray.trans rfl) (by kernel_rfl) (by kernel_rfl) (by kernel_rfl) (fun _ _ _ h => h) (Or.inl ⟨by rfl, ?_⟩) hHeld ?_
    rotate_left
    · intro w' hSw; go_simp; try with_reducible rfl
    try simp only [Act.put, List.setIfInBounds_toArray, List.set_cons_zero, List.set_cons_succ]
    refine wpAnyH_take (i := 8) (v := ?_) (List.getElem?_toArray.trans rfl) (by kernel_rfl) (by kernel_rfl) (by kernel_rfl) (fun _ _ _ h => h) (Or.inl ⟨by rfl, ?_⟩) hHeld ?_
    rotate_left
    · intro w' hSw; go_simp; try with_reducible rfl
    try simp only [Act.put, List.setIfInBounds_toArray, List.set_cons_zero, List.set_cons_succ]
    refine wpAnyH_ready (rs := [9]) (by kernel_rfl) (by simp) ?_
    refine AllReadyH.cons (List.getElem?_toArray.trans rfl) (fun K hK => ?_) AllReadyH.nil
    have bP2 := k2.blk r9 (fun e => by have := hFT _ e; omega)
    have d0 := bP2.cell 0 rfl
    have f0 := bP2.free 0
    go_simp
    refine hK.out _ _ (((k2.blk iT (fun e => Nat.lt_irrefl _ (hFT _ e))).keep (gb_set _ _ _ _ _) (ne_some (by omega))).cell 0 rfl) (fun hHeld => ?_)
    clear hK K
    try simp only [Act.put, List.setIfInBounds_toArray, List.set_cons_zero, List.set_cons_succ]
    refine wpAnyH_ready (rs := [10]) (by kernel_rfl) (by simp) ?_
    refine AllReadyH.cons (List.getElem?_toArray.trans rfl) (fun K hK => ?_) AllReadyH.nil
    have bE2 := (k2.blk iE (fun e => by have := hFT _ e; omega)).keep (gb_set u2 (w.heap.size + 4) 0 none (.int .i64 qn)) (ne_some (by omega))
    have d1 := bE2.cell 0 rfl
    have f1 := bE2.free 0
    go_simp
    refine hK.out _ _ ((((k2.blk iT (fun e => Nat.lt_irrefl _ (hFT _ e))).keep (gb_set _ _ _ _ _) (ne_some (by omega))).keep (gb_set _ _ _ _ _) (ne_some (by omega))).cell 0 rfl) (fun hHeld => ?_)
    clear hK K
    try simp only [Act.put, List.setIfInBounds_toArray, List.set_cons_zero, List.set_cons_succ]
    refine wpAnyH_done (by kernel_rfl) ?_ _
    refine NoPanic.normal ?_
    have gP := gb_set u2 (w.heap.size + 4) 0 none (.int .i64 qn)
    have gE := gb_set (u2.setCell ⟨w.heap.size + 4, 0, none⟩ (.int .i64 qn)) (w.heap.size + 2) 0 none (.int .i64 cn)
    have kb : ∀ {k t vs}, Blk W k t vs → w.heap.size ≤ k → Blk u2 k t vs := fun h hk => k2.blk h (fun e => by have := hFT _ e; omega)
    have cT3 := ((kb iT (by omega)).keep gP (ne_some (by omega))).keep gE (ne_some (by omega))
    have cF3 := ((kb iF (by omega)).keep gP (ne_some (by omega))).keep gE (ne_some (by omega))
    have cE3 := bE2.set 0 (.int .i64 cn)
    have cM3 := ((kb r7 (by omega)).keep gP (ne_some (by omega))).keep gE (ne_some (by omega))
    have cP3 := (bP2.set 0 (.int .i64 qn)).keep gE (ne_some (by omega))
    have cS3 := ((kb iS (by omega)).keep gP (ne_some (by omega))).keep gE (ne_some (by omega))
    have k23 : D5.Kp (fun i => w.heap.size ≤ i ∧ i < w.heap.size + 6) u2 ((u2.setCell ⟨w.heap.size + 4, 0, none⟩ (.int .i64 qn)).setCell ⟨w.heap.size + 2, 0, none⟩ (.int .i64 cn)) := (D5.Kp.of gP (fun k e => by cases e; omega)).trans (D5.Kp.of gE (fun k e => by cases e; omega))
    clear gP gE hHeld bE2 bP2 d0 f0 d1 f1
    generalize (u2.setCell ⟨w.heap.size + 4, 0, none⟩ (.int .i64 qn)).setCell ⟨w.heap.size + 2, 0, none⟩ (.int .i64 cn) = u3 at *
    have R3 : RowZ (w.heap.size + 6) ps.reverse v u3 := (r8.kp k2 (fun i hi => by have := hFT i hi; omega)).kp k23 (fun i hi => hi.2)
    have K3 : D5.Kp (footT y) w u3 := kp_far (ik.trans k2) (k23.mono fun i hi => hi.1)
    have KF : KeepsFrom W0.heap.size W u3 := by
      rw [hsz]
      exact (kp_keepsFrom k2 (fun i hi => by have := hFT i hi; omega)).trans (kp_keepsFrom k23 (fun i hi => hi.2))
    have SC : C7.SameCell (w.heap.size + 5) W u3 := fun u hu => by
      have h1 := iS.cell 0 rfl
      have h2 := cS3.cell 0 rfl
      rw [h1] at hu
      rw [h2]; exact hu
    have hL3 : ∀ (V2 : Pgs) (n2 z2 : Nat), Live u2 base p F y n2 g0 V V2 N z2 → Live u3 base p F y n2 g0 V V2 N z2 := fun _ _ _ h => h.kp k23 (fun i hi hh => by have := HFar.out i hi; omega)
    have dE := cE3.cell 0 rfl
    have dM := cM3.cell 0 rfl
    have dP := cP3.cell 0 rfl
    have dF := cF3.cell 0 rfl
    have fE := cE3.free 0
    have fM := cM3.free 0
    have fF := cF3.free 0
    have CT := Lib.hid cT3
    have CF := Lib.hid cF3
    have CE := Lib.hid cE3
    have CM := Lib.hid cM3
    have CP := Lib.hid cP3
    have CS := Lib.hid cS3
    have KK := Lib.hid K3
    have KKF := Lib.hid KF
    have SSC := Lib.hid SC
    have L3 := Lib.hid hL3
    have RM := Lib.hid r2
    have RC := Lib.hid r3
    have HBd := Lib.hid hbd
    have u3lt := K3.size
    clear cT3 cF3 cE3 cM3 cP3 cS3 K3 KF SC hL3 k23 k2 kb r2 r3 r5 r7 r8 r9 iT iF iE iS ik cT cP hbd hEW HN hbz
    rcases hcase with ⟨rfl, c1, c2, c3, c4, c5, c6⟩ | hbad
    · have HL := Lib.hid (L3.out _ _ _ c4)
      have HC1 := Lib.hid c1
      have HC6 := Lib.hid c6
      clear c4 c1 c6
      obtain ⟨Lr, hLr⟩ : ∃ Lr, ps.reverse = Lr := ⟨_, rfl⟩
      have hrl : Lr.length ≤ 10 := by rw [← hLr, List.length_reverse]; omega
      rw [hLr] at R3
      have HLr := Lib.hid hLr
      clear hLr
      obtain ⟨ao, cap, rfl⟩ := R3.shape
      have own3 := R3
      unfold RowZ at own3
      have u3lt2 := CS.out.lt
      gi_wp2_with (gi_at_builtin; go_must (refine wpListIn_append_own _ rfl _ _ 40 rfl (w.heap.size + 6) 3 i0 (.int .i64 0) 1 8 Tryz.underlying40 hi hz0 hz1 hz2 rfl (by decide) _ _ _ rfl (own3.alloc _) ⟨u3.heap.size, 0, none⟩ 1 1 [.int .i64 qn] rfl rfl (T9.cell1_new _ _ _) (one_intZ _) (by unfold maxLen; omega) (by omega) (by simp; omega) ?_; intro v4 w4 own4 g4 _; obtain ⟨gb, cap4, rfl⟩ := T9.ownsRow_succ own4; have b3 := blk_app CM.out own3 (by omega) g4; have d3 := b3.cell 0 rfl; have f3 := b3.free 0; replace g4 : (u3.alloc (.cells #[.int .i64 qn] 3)).grownBy w4 (Value.slice ao Lr.length cap).ownBlock := g4; have G4 := Lib.hid g4; have OW := Lib.hid (And.intro own3 own4); have B3 := Lib.hid b3; clear g4 own3 own4 b3))
      have gS := gb_set w4 (w.heap.size + 3) 0 none (.slice (some ⟨gb, 0, none⟩) (Lr.length + 1) cap4)
      have own3 := OW.out.1
      have kb : ∀ {k t vs}, Blk u3 k t vs → k < w.heap.size + 6 → k ≠ w.heap.size + 3 → Blk (w4.setCell ⟨w.heap.size + 3, 0, none⟩ (.slice (some ⟨gb, 0, none⟩) (Lr.length + 1) cap4)) k t vs := fun h h1 h2 => (blk_app h own3 h1 G4.out).keep gS (ne_some h2)
      have k34 : D5.Kp (fun i => w.heap.size ≤ i) u3 (w4.setCell ⟨w.heap.size + 3, 0, none⟩ (.slice (some ⟨gb, 0, none⟩) (Lr.length + 1) cap4)) := ((D5.Kp.of0 (gb_alloc u3 _ none)).trans (D5.Kp.of G4.out (fun k e => by have := (own3.lt k e).1; omega))).trans (D5.Kp.of gS (fun k e => by cases e; omega))
      have hL4 := HL.out.kp k34 (fun i hi hh => by have := HFar.out i hi; omega)
      have kf : KeepsFrom (w.heap.size + 6) u3 (w4.setCell ⟨w.heap.size + 3, 0, none⟩ (.slice (some ⟨gb, 0, none⟩) (Lr.length + 1) cap4)) := by
        refine ((KeepsOthers.alloc u3 (.cells #[.int .i64 qn] 3)).trans ((KeepsOthers.of_grownBy G4.out (fun j o e ho => ?_)).trans (KeepsOthers.setCell _ _ _))).from _
        rcases (own3.alloc (.cells #[.int .i64 qn] 3)).2 with ⟨h5, _⟩ | ⟨g2, cap2, cur, h5, _, hg, _⟩
        · rw [h5] at e; cases e
        · rw [h5] at e
          have e2 : some g2 = some j := e
          rw [Option.some.inj e2, ho] at hg
          cases hg; rfl
      have R4 : RowZ (w.heap.size + 6) (qn :: ps).reverse (.slice (some ⟨gb, 0, none⟩) (Lr.length + 1) cap4) (w4.setCell ⟨w.heap.size + 3, 0, none⟩ (.slice (some ⟨gb, 0, none⟩) (Lr.length + 1) cap4)) := by
        rw [List.reverse_cons, HLr.out]
        exact own_set (RowZ.snoc OW.out.2) (by omega) _
      have cS4 := kb CS.out (by omega) (by omega)
      have hmade : Made V' (upd Vc qn (2, bd)) (qn :: ps) := RM.out.1.cons HC1.out (fun q hq => (RC.out.stands q hq).1) c2 c3 _
      have hchp : ChP (upd Vc qn (2, bd)) (qn :: ps) (pre ++ [x]).reverse := by
        rw [List.reverse_append, ← HBd.out]
        exact RC.out.cons c2 c3 HC1.out x
      refine ⟨KKF.out.trans (by rw [hsz]; exact kf), fun u hu => ?_, kb CT.out (by omega) (by omega), kb CF.out (by omega) (by omega), kb CE.out (by omega) (by omega), cS4, ⟨qn :: ps, upd Vc qn (2, bd), n2, (.slice (some ⟨gb, 0, none⟩) (Lr.length + 1) cap4), by simp [r1], ⟨hmade, fun r h1 h2 => by
        by_cases e : r ∈ ps
        · exact .inr e
        · exact .inl (by rw [← RM.out.1.same r e]; exact HC6.out r h1 h2), RM.out.2⟩, hchp, by omega, ?_, by simp; omega, B3.out.set 0 (.slice (some ⟨gb, 0, none⟩) (Lr.length + 1) cap4), R4, ⟨_, kb CP.out (by omega) (by omega), fun _ => ⟨by simp; omega, ?_⟩⟩, ?_, .inl rfl⟩, kp_far KK.out k34⟩
      · have h1 := SSC.out u hu
        have h2 := CS.out.cell 0 rfl
        rw [h2] at h1
        have h3 := cS4.cell 0 rfl
        rw [h3]; exact h1
      · rw [List.length_append, List.length_singleton, ← Nat.sub_sub]
        exact hL4
      · show Value.int .i64 qn = .int .i64 ((qn.toNat : Nat) : Int)
        rw [show ((qn.toNat : Nat) : Int) = qn by omega]
      · rw [cnt_upd HC1.out c2 c3, r11, List.length_cons]; omega
    · have hcn : cn ≠ 0 := by rcases hbad with ⟨rfl, _⟩ | ⟨rfl, _⟩ <;> decide
      have hcn2 : (cn != 0) = true := by simpa using hcn
      have HB := Lib.hid hbad
      clear hbad
      gi_wp2
      refine wpIn_region_round (S := fun w' => w'.cell? ⟨w.heap.size + 2, 0, none⟩ = some (.int .i64 cn)) (by kernel_rfl) (by kernel_rfl) dE (fun hHeld => ?_) (by rintro ⟨_, _, h⟩; exact h)
      refine wpAnyH_take (i := 0) (v := ?_) (List.getElem?_toArray.trans rfl) (by kernel_rfl) (by kernel_rfl) (by kernel_rfl) (fun _ _ _ h => h) (Or.inl ⟨by rfl, ?_⟩) hHeld ?_
      rotate_left
      · intro w' hSw; go_simp; try with_reducible rfl
      try simp only [Act.put, List.setIfInBounds_toArray, List.set_cons_zero, List.set_cons_succ]
      refine wpAnyH_ready (rs := [1]) (by kernel_rfl) (by simp) ?_
      refine AllReadyH.cons (List.getElem?_toArray.trans rfl) (fun K hK => ?_) AllReadyH.nil
      go_simp
      refine hK.out _ _ ((CE.out.keep (gb_set u3 (w.heap.size + 1) 0 none (.int .i64 0)) (ne_some (by omega))).cell 0 rfl) (fun hHeld => ?_)
      clear hK K
      try simp only [Act.put, List.setIfInBounds_toArray, List.set_cons_zero, List.set_cons_succ]
      refine wpAnyH_ready (rs := [2]) (by kernel_rfl) (by simp) ?_
      refine AllReadyH.cons (List.getElem?_toArray.trans rfl) (fun K hK => ?_) AllReadyH.nil
      have e0 := (CE.out.keep (gb_set u3 (w.heap.size + 1) 0 none (.int .i64 0)) (ne_some (by omega)))
      have e1 := e0.cell 0 rfl
      have e2 := e0.free 0
      go_simp
      refine hK.out _ _ ((e0.set 0 (.int .i64 cn)).cell 0 rfl) (fun hHeld => ?_)
      clear hK K
      try simp only [Act.put, List.setIfInBounds_toArray, List.set_cons_zero, List.set_cons_succ]
      refine wpAnyH_done (by kernel_rfl) ?_ _
      refine NoPanic.normal ?_
      gi_wp2
      have gX := gb_set u3 (w.heap.size + 1) 0 none (.int .i64 0)
      have gY := gb_set (u3.setCell ⟨w.heap.size + 1, 0, none⟩ (.int .i64 0)) (w.heap.size + 2) 0 none (.int .i64 cn)
      have gZ := gb_drew ((u3.setCell ⟨w.heap.size + 1, 0, none⟩ (.int .i64 0)).setCell ⟨w.heap.size + 2, 0, none⟩ (.int .i64 cn)) none
      have kb : ∀ {k t vs}, Blk u3 k t vs → k ≠ w.heap.size + 1 → k ≠ w.heap.size + 2 → Blk ((u3.setCell ⟨w.heap.size + 1, 0, none⟩ (.int .i64 0)).setCell ⟨w.heap.size + 2, 0, none⟩ (.int .i64 cn)).drew k t vs := fun h h1 h2 => ((h.keep gX (ne_some h1)).keep gY (ne_some h2)).keep0 gZ
      have bF4 := ((CF.out.set 0 (.int .i64 0)).keep gY (ne_some (by omega))).keep0 gZ
      have bE4 := (e0.set 0 (.int .i64 cn)).keep0 gZ
      have k34 : D5.Kp (fun i => w.heap.size ≤ i ∧ i < w.heap.size + 6) u3 ((u3.setCell ⟨w.heap.size + 1, 0, none⟩ (.int .i64 0)).setCell ⟨w.heap.size + 2, 0, none⟩ (.int .i64 cn)).drew := ((D5.Kp.of gX (fun k e => by cases e; omega)).trans (D5.Kp.of gY (fun k e => by cases e; omega))).trans (D5.Kp.of0 gZ)
      have hL4 : ∀ {V2 n2 z2}, Live u3 base p F y n2 g0 V V2 N z2 → Live ((u3.setCell ⟨w.heap.size + 1, 0, none⟩ (.int .i64 0)).setCell ⟨w.heap.size + 2, 0, none⟩ (.int .i64 cn)).drew base p F y n2 g0 V V2 N z2 := fun h => h.kp k34 (fun i hi hh => by have := HFar.out i hi; omega)
      have hLz : Live u2 base p F y n2 g0 V Vc N (z - pre.length) := by rcases HB.out with ⟨_, h, _⟩ | ⟨_, h, _⟩ <;> exact h
      refine ⟨KKF.out.trans (by rw [hsz]; exact kp_keepsFrom k34 (fun i hi => hi.2)), rfl, pre, x, cn, rfl, hcn, ⟨kb CT.out (by omega) (by omega), bF4, bE4, kb CS.out (by omega) (by omega), ⟨ps, Vc, n2, v, r1, RM.out, RC.out, by omega, hL4 (L3.out _ _ _ hLz), r6, kb CM.out (by omega) (by omega), R3.kp k34 (fun i hi => hi.2), ⟨_, kb CP.out (by omega) (by omega), fun h => absurd h hcn⟩, r11, ?_⟩, kp_far KK.out (k34.mono fun i hi => hi.1)⟩⟩
      rcases HB.out with ⟨h1, _, h3⟩ | ⟨h1, _, h3⟩
      · exact .inr (.inl ⟨h1, by omega⟩)
      · exact .inr (.inr ⟨h1, h3⟩)
  case done =>
    rintro D ys W hD hys hI hK
    subst hys
    obtain ⟨iT, iF, iE, iS, ⟨ps, Vc, n', v, r1, r2, r3, r4, r5, r6, r7, r8, ⟨pv, r9, r10⟩, r11, r12⟩, ik⟩ := hI
    obtain ⟨r13, rfl⟩ := r10 rfl
    rw [preL_length] at r1 r5 r6
    have hch := ChP.text (need s.size) ps (Nat.le_refl _) r3
    rw [Nat.sub_self, Nat.zero_mul, List.drop_zero] at hch
    have cP := r9.cell 0 rfl
    have cF := iF.cell 0 rfl
    have cE := iE.cell 0 rfl
    have fF := iF.free 0
    have fE := iE.free 0
    have RM := Lib.hid r2
    have IF := Lib.hid iF
    have IE := Lib.hid iE
    have IK := Lib.hid ik
    have R5 := Lib.hid r5
    clear r10 r12 r2 r3 iT iF iE iS r7 r8 r9 ik r5
    gi_wp2
    have gX := gb_set W (w.heap.size + 1) 0 none (.int .i64 (hd ps : Nat))
    have gY := gb_set (W.setCell ⟨w.heap.size + 1, 0, none⟩ (.int .i64 (hd ps : Nat))) (w.heap.size + 2) 0 none (.int .i64 0)
    have gD := grownBy_putObj' ((W.setCell ⟨w.heap.size + 1, 0, none⟩ (.int .i64 (hd ps : Nat))).setCell ⟨w.heap.size + 2, 0, none⟩ (.int .i64 0)) D (.deferred none)
    have bF5 := ((IF.out.set 0 (.int .i64 (hd ps : Nat))).keep gY (ne_some (by omega))).keep gD (ne_some (by omega))
    have bE5 := ((IE.out.keep gX (ne_some (by omega))).set 0 (.int .i64 0)).keep gD (ne_some (by omega))
    have k5 : D5.Kp (fun i => w.heap.size ≤ i) W (((W.setCell ⟨w.heap.size + 1, 0, none⟩ (.int .i64 (hd ps : Nat))).setCell ⟨w.heap.size + 2, 0, none⟩ (.int .i64 0)).putObj D (.deferred none)) := ((D5.Kp.of gX (fun k e => by cases e; omega)).trans (D5.Kp.of gY (fun k e => by cases e; omega))).trans (D5.Kp.of gD (fun k e => by cases e; omega))
    have hK2 : ((W.setCell ⟨w.heap.size + 1, 0, none⟩ (.int .i64 (hd ps : Nat))).setCell ⟨w.heap.size + 2, 0, none⟩ (.int .i64 0)).heap[D]? = some (.deferred (some [])) :=
      (Below.heap_setCell _ ⟨w.heap.size + 2, 0, none⟩ _ D (by show D ≠ w.heap.size + 2; omega)).trans ((Below.heap_setCell W ⟨w.heap.size + 1, 0, none⟩ _ D (by show D ≠ w.heap.size + 1; omega)).trans hK)
    refine ⟨by simp, .inl ⟨_, _, rfl, run_takeDeferred hK2, ?_⟩⟩
    refine ⟨by simp, .inr ⟨fun _ => by omega, _, _, 24, #[.pointer (some ⟨w.heap.size + 2, 0, none⟩), .pointer (some ⟨w.heap.size, 0, none⟩), .pointer (some ⟨w.heap.size + 3, 0, none⟩)], rfl, by simp [go_sem], fun _ _ => trivial, ?_⟩⟩
    refine (end_ok (bE5.cell 0 rfl)).mono ?_
    rintro e u' w'' ⟨rfl, rfl, rfl⟩
    refine ⟨_, T9.two_rows rfl _ _ (w.heap.size + 1) (w.heap.size + 2) _ _ rfl rfl bF5 bE5, n', by omega, kp_far IK.out k5, .inl ⟨ps, Vc, rfl, RM.out, hch, by rw [r1]; exact R5.out.kp k5 (fun i hi hh => by have := HFar.out i hi; omega), by omega, r11⟩⟩
  case stop =>
    rintro D c pre W hD ⟨k, hk, hpre⟩ ⟨rfl, pr, x, cd, e2, e3, hI⟩ hK
    obtain ⟨iT, iF, iE, iS, ⟨ps, Vc, n', v, r1, r2, r3, r4, r5, r6, r7, r8, ⟨pv, r9, r10⟩, r11, r12⟩, ik⟩ := hI
    subst e2
    obtain ⟨_, _, hkl⟩ := preL_end hpre
    have R2 := Lib.hid r2
    have R3 := Lib.hid r3
    have R5 := Lib.hid r5
    have R12 := Lib.hid r12
    have IT := Lib.hid iT
    have IF := Lib.hid iF
    have IE := Lib.hid iE
    have R7 := Lib.hid r7
    have R8 := Lib.hid r8
    have IK := Lib.hid ik
    clear r10 r12 r2 r3 iT iF iE iS r7 r8 r9 ik r5 hpre
    gi_wp2
    have gD := grownBy_putObj' W D (.deferred none)
    have kb : ∀ {k t vs}, Blk W k t vs → k < w.heap.size + 6 → Blk (W.putObj D (.deferred none)) k t vs := fun h hk => h.keep gD (ne_some (by omega))
    have bT5 := kb IT.out (by omega)
    have bF5 := kb IF.out (by omega)
    have bE5 := kb IE.out (by omega)
    have bM5 := kb R7.out (by omega)
    have kD : D5.Kp (fun i => w.heap.size + 6 ≤ i) W (W.putObj D (.deferred none)) := D5.Kp.of gD (fun k e => by cases e; omega)
    have hL5 := R5.out.kp kD (fun i hi hh => by have := HFar.out i hi; omega)
    have hR5 : RowZ (w.heap.size + 6) ps.reverse v (W.putObj D (.deferred none)) := row_own R8.out gD (fun r e => by cases e; exact ⟨_, hK, rfl⟩)
    have hsz5 : w.heap.size + 6 ≤ (W.putObj D (.deferred none)).heap.size := by have := gD.size; have := (Array.getElem?_eq_some_iff.1 hK).1; omega
    have hG := letGo_live hL5 (B := w.heap.size + 6) (fun i hi => by have := HFar.out i hi; omega) hsz5 hR5 (by rw [List.length_reverse]; omega)
    refine ⟨by simp, .inl ⟨_, _, rfl, run_takeDeferred hK, ?_⟩⟩
    refine ⟨by simp, .inr ⟨fun _ => by omega, _, _, 24, #[.pointer (some ⟨w.heap.size + 2, 0, none⟩), .pointer (some ⟨w.heap.size, 0, none⟩), .pointer (some ⟨w.heap.size + 3, 0, none⟩)], rfl, by simp [go_sem], fun _ _ => trivial, ?_⟩⟩
    refine (end_no (by omega) (bE5.cell 0 rfl) e3 (bT5.cell 0 rfl) (bM5.cell 0 rfl) hG).mono ?_
    rintro e u' w'' ⟨rfl, rfl, ⟨n5, z5, hn5, hLv⟩, k5⟩
    have hFT : ∀ i, footT y i → i < w.heap.size := fun i hi => HFar.out i (FX.foot hi)
    have bF6 := k5.blk bF5 (fun e => by have := hFT _ e; omega)
    have bE6 := k5.blk bE5 (fun e => by have := hFT _ e; omega)
    rw [delL_perm (m := ps) (fun q => List.mem_reverse), R2.out.1.back] at hLv
    rw [List.length_reverse] at hn5
    have kk : D5.Kp (footT y) w w'' := (kp_far IK.out (kD.mono fun i hi => by omega)).trans k5
    rcases R12.out with h0 | ⟨rfl, h1⟩ | ⟨rfl, h1⟩
    · exact absurd h0 e3
    · exact ⟨_, T9.two_rows rfl _ _ (w.heap.size + 1) (w.heap.size + 2) _ _ rfl rfl bF6 bE6, n5, by omega, kk, .inr (.inl ⟨rfl, by omega, z5, hLv⟩)⟩
    · exact ⟨_, T9.two_rows rfl _ _ (w.heap.size + 1) (w.heap.size + 2) _ _ rfl rfl bF6 bE6, n5, by omega, kk, .inr (.inr ⟨rfl, by omega, z5, hLv⟩)⟩
end Go.Proofs.YtliiooldlooagaaGreatDoor.O12

/-
  The laws' small functions: a text, a transaction on a fresh disk; the pages of a transaction; over this seat's translation; conditions: those that each law states.
-/
namespace Go.Proofs.YtliiooldlooagaaGreatDoor.O12
open Go.RowKit Go.Maps Go.Shelf J10
/-- An act. -/
def actW (a b : UInt8) (c : UInt16) : Array Value := #[.int .u8 (a.toNat : Nat), .int .u8 (b.toNat : Nat), .int .u16 (c.toNat : Nat)]
theorem u8_any (z : Int) : ∃ c : UInt8, IntKind.u8.wrap z = ((c.toNat : Nat) : Int) :=
  ⟨UInt8.ofNat (z % 256).toNat, by rw [IntKind.wrap_u8', UInt8.toNat_ofNat']; omega⟩
set_option maxRecDepth 100000 in
set_option maxHeartbeats 2000000 in
theorem text_any (a b : UInt8) (c : UInt16) (w : World) : Calls Tryz.prog 8 #[.agg (actW a b c)] w fun e w' => ∃ s : ByteArray, e = .returned (.string s) ∧ s.size ≤ 2009 ∧ w.grownBy w' none := by
  obtain ⟨n, hn⟩ : ∃ n, c.toNat % 2010 = n := ⟨_, rfl⟩
  have hn2 : n ≤ 2009 := by omega
  have hc := UInt16.toNat_lt c
  have hw1 : IntKind.i64.wrap ((c.toNat : Nat) : Int) = ((c.toNat : Nat) : Int) := IntWalk.i64_in _ (by omega)
  have hm : (((c.toNat : Nat) : Int)).tmod 2010 = (n : Nat) := by rw [Int.tmod_eq_emod_of_nonneg (by omega)]; omega
  have hm2 : IntKind.i64.wrap ((n : Nat) : Int) = (n : Int) := IntWalk.i64_in _ (by omega)
  have hm3 : ((c.toNat : Nat) : Int) % 2010 = (n : Nat) := by omega
  have mk := fun W => make_by n W (by omega)
  go_enter Tryz.func8, Tryz.ntmps8
  unfold actW
  go_wp2
  have gA := gb_alloc w (.cells (actW a b c) 32) none
  have gB := gb_alloc (w.alloc (.cells (actW a b c) 32)) (.cells (byC (List.replicate n 0)).toArray 5) none
  have b1 := (Blk.mk w 32 (actW a b c)).keep0 gB
  have b2 := Blk.mk (w.alloc (.cells (actW a b c) 32)) 5 (byC (List.replicate n 0)).toArray
  rw [World.size_alloc] at b2
  have g0 := gb_trans gA gB
  change Code.wp _ _ _ _ ((w.alloc (.cells (actW a b c) 32)).alloc (.cells (byC (List.replicate n 0)).toArray 5))
  generalize (w.alloc (.cells (actW a b c) 32)).alloc (.cells (byC (List.replicate n 0)).toArray 5) = w0 at *
  have G0 := Lib.hid g0
  have B1 := Lib.hid b1
  have B2 := Lib.hid b2
  clear gA gB b1 b2 g0 mk
  go_loopw [4] (fun v wr => ∃ (k : Nat) (l : List UInt8), k ≤ n ∧ v = .int .i64 (k : Nat) ∧ l.length = n ∧ Blk wr (w.heap.size + 1) 5 (byC l).toArray ∧ Blk wr w.heap.size 32 (actW a b c) ∧ w.grownBy wr none) (fun v _ => n - (intOf v).toNat)
  case atStart => exact ⟨0, List.replicate n 0, by omega, rfl, List.length_replicate, B2.out, B1.out, G0.out⟩
  case round =>
    obtain ⟨k, l, hk, rfl, hll, hb, hx, hg⟩ := hrel
    by_cases hlt : k < n
    · have c2 : wr.cell? ⟨w.heap.size, 1, none⟩ = some (.int .u8 (b.toNat : Nat)) := hx.cell 1 rfl
      have d0 := hb.cell k (v := .int .u8 ((l.getD k 0).toNat : Nat)) (by rw [List.getElem?_toArray]; exact byC_at (by omega))
      have e0 := hb.free k
      have hw4 : IntKind.i64.wrap (((k : Nat) : Int).tmod 7) = (k : Int) % 7 := by rw [Int.tmod_eq_emod_of_nonneg (by omega)]; exact IntWalk.i64_in _ (by omega)
      have hb7 := UInt8.toNat_lt b
      obtain ⟨cq, hcq⟩ := u8_any ((b.toNat : Int) + (k : Int) % 7)
      rw [IntKind.wrap_u8'] at hcq
      have hnew := hb.set k (.int .u8 (cq.toNat : Nat))
      rw [byC_set] at hnew
      have gs := gb_set wr (w.heap.size + 1) k none (.int .u8 (cq.toNat : Nat))
      have hxn := hx.keep gs (ne_some (by omega))
      have HNw := Lib.hid hnew
      have HX := Lib.hid hxn
      have HG := Lib.hid (gb_step hg gs (by omega))
      clear hnew hxn hg hx hb gs
      go_wp2
      go_roundw
      case rel => exact ⟨k + 1, l.set k cq, by omega, by go_num, by rw [List.length_set]; exact hll, HNw.out, HX.out, HG.out⟩
      case measure => simp [intOf]; omega
    · obtain rfl : k = n := by omega
      have hcv := by_str hb k hll.symm
      have hsz : (⟨l.toArray⟩ : ByteArray).size = k := by show l.toArray.size = k; rw [List.size_toArray]; exact hll
      have HG := Lib.hid hg
      clear hg hx hb
      go_wp2
      go_ret
      exact ⟨_, rfl, by omega, HG.out⟩
set_option maxRecDepth 4000 in
theorem pages_view {g : Pg} {T : Tr} {V V' : Pgs} {N : Nat} (o : Over g T V V' N) : pagesN T.t.P = ((List.range 960).filter fun j : Nat => (V' ((j : Int) + 1)).isSome).map (· + 1) := by
  unfold pagesN pagesTo
  congr 1
  refine List.filter_congr fun j hj => ?_
  have hj9 := List.mem_range.1 hj
  have h := o.has ((j : Int) + 1)
  rw [T9.getF_nat _ _ hj9] at h
  cases hv : V' ((j : Int) + 1) with
  | none => rw [h.2 hv]; rfl
  | some x =>
    have : T.t.P.getD j 0 ≠ 0 := fun e => by rw [h.1 e] at hv; cases hv
    simpa using this
def pagesV (V : Pgs) : List Nat := ((List.range 960).filter fun j : Nat => (V ((j : Int) + 1)).isSome).map (· + 1)
theorem pagesV_length (V : Pgs) : (pagesV V).length = cntV V := by unfold pagesV cntV; rw [List.length_map, List.countP_eq_length_filter]
theorem txp_live {w : World} {base p : Nat} {F : Nat → Prop} {y : Bx} {n : Nat} {g0 : Pg} {V V' : Pgs} {N z : Nat} (h : Live w base p F y n g0 V V' N z) : Calls Tryz.prog 12 #[.pointer (some ⟨y.x, 0, none⟩)] w (T9.NtsGot w (pagesV V')) := by
  obtain ⟨k, g, T, h1, h2, h3, h4, h5, h6⟩ := h
  have := txPages_any h4 h5.st.dead
  rw [pages_view h5] at this
  exact this
end Go.Proofs.YtliiooldlooagaaGreatDoor.O12

/-
  The laws' transaction on a fresh disk, over this seat's translation; conditions: the listed variables are laid.
-/
namespace Go.Proofs.YtliiooldlooagaaGreatDoor.O12
open Go.RowKit Go.Maps J10
/-- No page. -/
def V0 : Pgs := fun _ => none
theorem env_gb {w w' : World} (h : Env w) (g : w.grownBy w' none) : Env w' := h.kp (D5.Kp.of0 (F := fun _ => False) g) (fun _ h => h.elim)
def FreshG (w : World) (m : Nat) (e : Ending) (w' : World) : Prop :=
  ∃ p F y g0, e = .returned (.tuple #[.pointer (some ⟨p, 0, none⟩), .pointer (some ⟨y.x, 0, none⟩)]) ∧ Live w' w.heap.size p F y 0 g0 V0 V0 10 (m - 2) ∧ g0.d.armed = false ∧ g0.d.secs.length = m ∧ g0.r.e = 0 ∧ M6.leftF g0.m = m - 2 ∧ (∀ i, F i → w.heap.size ≤ i ∧ i < w'.heap.size) ∧ w.grownBy w' none
set_option maxRecDepth 100000 in
set_option maxHeartbeats 4000000 in
theorem fresh_live {w : World} (hE : Env w) (h5 : 4 ≤ w.heap.size) {m : Nat} (m1 : 64 ≤ m) (m2 : m ≤ 1024) : Calls Tryz.prog 7 #[.int .i64 (m : Nat)] w (FreshG w m) := by
  unfold FreshG V0
  have HE := Lib.hid hE
  have HD := Lib.hid (D5.dnew_any m w (by omega) (by omega))
  clear hE
  go_enter Tryz.func7, Tryz.ntmps7
  go_wp2_with (first
    | (go_at_call 23; (with_reducible refine HD.out.mono ?_); rintro e w1 ⟨p, rfl, hP, g1⟩; have hP := Lib.hid hP; have g1 := Lib.hid g1)
    | fail)
  have z1 := g1.out.size
  have HO := Lib.hid (ov_fresh hP.out m1 m2 (env_gb HE.out g1.out) z1 (fun i hi => ⟨by have := hi.1; omega, hi.2⟩))
  go_wp2_with (first
    | (go_at_call 22; (with_reducible refine HO.out.mono ?_); rintro e w2 ⟨k, g, rfl, hG, hS, hbz, har, hsc, hre, -, -, -, hdp, hft, hk2⟩; have hG := Lib.hid hG; have hS := Lib.hid hS; have hbz := Lib.hid hbz; have har := Lib.hid har; have hsc := Lib.hid hsc; have hre := Lib.hid hre; have hft := Lib.hid hft; have hk2 := Lib.hid hk2)
    | fail)
  have G2 := Lib.hid (gb_kp g1.out hk2.out (fun i hi => hi.1))
  have z2 := G2.out.size
  have HBg := Lib.hid (begin_any hG.out hS.out.dead hbz.out z2)
  unfold BeginGot at HBg
  go_wp2_with (first
    | (go_at_call 14; (with_reducible refine HBg.out.mono ?_); rintro e w3 ⟨y, rfl, h3, k3, lx, ltb, lmb, lbm⟩; have h3 := Lib.hid h3; have k3 := Lib.hid k3)
    | fail)
  have hlen : g.d.secs.length = m := by rw [hsc.out]; exact List.length_replicate
  have hlf : M6.leftF g.m = m - 2 := by have := hS.out.left low_nil; rw [cntV_nil, hlen] at this; simp at this; omega
  go_ret2
  refine ⟨k.p, footG k, y, { g with busy := true }, rfl, ⟨k, _, _, rfl, fun i h => h, Gd.refl _, h3.out, Over.new (hS.out.busy true), hlf⟩, har.out, hlen, hre.out, hlf, fun i hi => ⟨hG.out.ge i hi, ?_⟩, gb_kp G2.out k3.out (fun i hi => by rw [hi]; exact hG.out.bp)⟩
  exact Nat.lt_of_lt_of_le (hG.out.lt i hi) k3.out.size
end Go.Proofs.YtliiooldlooagaaGreatDoor.O12

/-
  The chapter's examples, as the laws play them (works), over this seat's translation; conditions: the listed variables are laid.
-/
namespace Go.Proofs.YtliiooldlooagaaGreatDoor.O12
open Go.RowKit Go.Maps Go.Shelf J10
def down : Nat → List Int
  | 0 => []
  | n + 1 => ((n + 1 : Nat) : Int) :: down n
theorem mem_down {n : Nat} {r : Int} : r ∈ down n ↔ 1 ≤ r ∧ r ≤ n := by
  induction n with
  | zero => simp [down]; omega
  | succ n ih => rw [down, List.mem_cons, ih]; omega
theorem low_down {ps : List Int} (h : LowM V0 ps) (hn : ps.Nodup) (h1 : ∀ q ∈ ps, 1 ≤ q) : ps = down ps.length := by
  induction ps with
  | nil => rfl
  | cons p ps ih =>
    obtain ⟨a, b⟩ := h
    have hn2 := List.nodup_cons.1 hn
    have e := ih b hn2.2 (fun q hq => h1 q (List.mem_cons_of_mem _ hq))
    have h0 := h1 p List.mem_cons_self
    have m1 : ¬ p ≤ ps.length := fun hh => hn2.1 (by rw [e]; exact mem_down.2 ⟨h0, hh⟩)
    have m2 : ¬ (ps.length : Int) + 1 < p := fun hh => by
      rcases a (ps.length + 1) (by omega) hh with h | h
      · exact h rfl
      · have := (mem_down.1 (show ((ps.length : Int) + 1) ∈ down ps.length by rw [← e]; exact h)).2
        omega
    have hp : p = ((ps.length + 1 : Nat) : Int) := by omega
    rw [List.length_cons, down, ← e, hp]
/-- A chain of two. -/
theorem ch_two {V : Pgs} {p q : Int} {s : List UInt8} (h : Ch V [p, q] s) : (1 ≤ p ∧ p ≤ 960) ∧ (1 ≤ q ∧ q ≤ 960) ∧ bodyAt V p = some (bodyB q.toNat (s.take 238)) ∧ bodyAt V q = some (bodyB 0 (s.drop 238)) ∧ 238 < s.length ∧ s.length ≤ 476 := by
  have hl := h.length
  simp only [List.length_cons, List.length_nil] at hl
  unfold need at hl
  obtain ⟨_, hp, _, h2⟩ := id h
  obtain ⟨_, hq, _, _⟩ := id h2
  have b1 := Ch.bodyAt h
  have b2 := Ch.bodyAt h2
  refine ⟨hp, hq, b1, ?_, by omega, by omega⟩
  rw [b2, List.take_of_length_le (by rw [List.length_drop]; omega)]
  rfl
theorem get_300 {V : Pgs} {s : List UInt8} (h : Ch V [2, 1] s) (hl : s.length = 300) : getL V 2 2 299 = none ∧ getL V 1 1 62 = some (s.drop 238) := by
  obtain ⟨_, _, b1, b2, _, _⟩ := ch_two h
  have e2 : (bodyB 0 (s.drop 238)).size = 64 := by rw [bodyB_size, List.length_drop]; omega
  have e1 : (bodyB 1 (s.take 238)).size = 240 := by rw [bodyB_size, List.length_take]; omega
  have n1 : nxt (bodyB 1 (s.take 238)) = 1 := nxt_body (by omega) _
  have n2 : nxt (bodyB 0 (s.drop 238)) = 0 := nxt_body (by omega) _
  constructor
  · rw [get_more b1 ⟨by show (bodyB 1 _).size - 2 = _; rw [e1]; rfl, by show nxt (bodyB 1 _) = 0 ↔ _; rw [n1]; omega⟩]
    show Option.map _ (getL V 1 ((nxt (bodyB 1 (s.take 238)) : Nat) : Int) 61) = none
    rw [n1]
    show Option.map _ (getL V 1 1 61) = none
    rw [get_bad b2 (fun hh => by rw [e2] at hh; omega)]
    rfl
  · rw [get_more b2 ⟨by rw [e2]; rfl, by rw [n2]; omega⟩]
    show Option.map _ (some []) = _
    rw [pce_body]
    simp
/-- A text for which there is room. -/
def PutR (w : World) (base p : Nat) (F : Nat → Prop) (y : Bx) (n : Nat) (g0 : Pg) (V V' : Pgs) (N z : Nat) (s : ByteArray) (ps : List Int) (w' : World) : Prop :=
  ∃ n' Vc, n' ≤ n + 30 ∧ D5.Kp (footT y) w w' ∧ (Made V' Vc ps ∧ LowM V' ps) ∧ Ch Vc ps s.data.toList ∧ ps.length = need s.size ∧ Live w' base p F y n' g0 V Vc N (z - need s.size) ∧ cntV Vc = cntV V' + need s.size
theorem put_room {w : World} {base p : Nat} {F : Nat → Prop} {y : Bx} {n : Nat} {g0 : Pg} {V V' : Pgs} {N z : Nat} (h : Live w base p F y n g0 V V' N z) (hF : ∀ i, F i → i < w.heap.size) (hE : Env w) (b5 : 4 ≤ base) (hn : n < 900000) {s : ByteArray} (hs1 : 1 ≤ s.size) (hs2 : s.size ≤ 2000) (hz : need s.size ≤ z) (hc : cntV V' + need s.size ≤ 960) :
    Calls Tryz.prog 9 #[.pointer (some ⟨y.x, 0, none⟩), .string s] w fun e w' => ∃ ps, e = .returned (.tuple #[.int .i64 (hd ps : Nat), .int .i64 0]) ∧ PutR w base p F y n g0 V V' N z s ps w' :=
  (put_live h hF hE b5 hn hs1 hs2).mono fun e w' hh => by
    obtain ⟨n', hn', k, hcase⟩ := hh
    rcases hcase with ⟨ps, Vc, rfl, hM, hCh, hL, hle, hcn⟩ | ⟨_, h1, _⟩ | ⟨_, h1, _⟩
    · have hl : ps.length = need s.size := hCh.length.trans (by rw [Array.length_toList]; rfl)
      rw [hl] at hL hcn
      exact ⟨ps, rfl, n', Vc, hn', k, hM, hCh, hl, hL, hcn⟩
    · omega
    · omega
/-- The first text of a disk. -/
theorem put_first {w : World} {base p : Nat} {F : Nat → Prop} {y : Bx} {n : Nat} {g0 : Pg} {V : Pgs} {N z : Nat} (h : Live w base p F y n g0 V V0 N z) (hF : ∀ i, F i → i < w.heap.size) (hE : Env w) (b5 : 4 ≤ base) (hn : n < 900000) {s : ByteArray} (hs1 : 1 ≤ s.size) (hs2 : s.size ≤ 2000) (hz : need s.size ≤ z) {m : Nat} (hm : need s.size = m) {q : Int} (hq : ((hd (down m) : Nat) : Int) = q) :
    Calls Tryz.prog 9 #[.pointer (some ⟨y.x, 0, none⟩), .string s] w fun e w' => e = .returned (.tuple #[.int .i64 q, .int .i64 0]) ∧ PutR w base p F y n g0 V V0 N z s (down m) w' :=
  (put_room h hF hE b5 hn hs1 hs2 hz (by have e0 : cntV V0 = 0 := cntV_nil; have := need_le hs2; omega)).mono fun e w' hh => by
    obtain ⟨ps, rfl, n', Vc, hn', k, ⟨hMd, hLw⟩, hCh, hl, hL, hcn⟩ := hh
    obtain rfl : ps = down m := by
      have := low_down hLw hMd.nd (fun q hq => (hMd.new q hq).2.1)
      rwa [hl, hm] at this
    exact ⟨by rw [hq], n', Vc, hn', k, ⟨hMd, hLw⟩, hCh, hl, hL, hcn⟩
theorem row_at {B : Nat} {l : List Int} {ao : Option Addr} {n c : Nat} {W : World} (h : RowZ B l (.slice ao n c) W) {k : Nat} {z : Int} (hk : l[k]? = some z) : ∃ g, ao = some ⟨g, 0, none⟩ ∧ W.cell? ⟨g, k, none⟩ = some (.int .i64 z) := by
  obtain ⟨hlt, hk2⟩ := List.getElem?_eq_some_iff.1 hk
  rcases h.2 with ⟨e, h0⟩ | ⟨g, cap, cur, e, hb, hh, hc, hm, hs, ht⟩
  · omega
  · cases e
    have c0 := World.ownsRow.cells h (g := g) rfl k _ (intC_at hlt)
    rw [List.getD_eq_getElem?_getD, hk] at c0
    refine ⟨g, rfl, ?_⟩
    unfold Addr.add at c0
    by_cases e : k = 0
    · subst e; exact c0
    · rw [if_neg e] at c0
      simpa using c0
section
variable {w : World} {base p : Nat} {F : Nat → Prop} {y : Bx} {n : Nat} {g0 : Pg} {V V' : Pgs} {N z : Nat}
theorem FX.ge (h : Live w base p F y n g0 V V' N z) (hF : ∀ i, F i → base ≤ i) {i : Nat} (hi : FX F y i) : base ≤ i := by
  obtain ⟨k, g, T, h1, h2, h3, h4, h5, h6⟩ := h
  rcases hi with hi | hi
  · exact hF i hi
  · exact h4.ge i (.inr (hi.imp id id))
set_option maxRecDepth 8000 in
theorem txp_row (h : Live w base p F y n g0 V V' N z) {c : Nat} (hc : cntV V' = c) : Calls Tryz.prog 12 #[.pointer (some ⟨y.x, 0, none⟩)] w fun e w' => ∃ ao cap, e = .returned (.slice ao c cap) ∧ w'.ownsRow w.heap.size 3 1 (.slice ao c cap) c (intsC (pagesV V')) ∧ w.grownBy w' none := by
  refine (txp_live h).mono fun e w' hh => ?_
  obtain ⟨v, rfl, h1, h2⟩ := hh
  rw [pagesV_length, hc] at h1
  rcases h1.2 with ⟨rfl, h0⟩ | ⟨g, cap, _, rfl, _⟩
  · subst h0; exact ⟨none, 0, rfl, h1, h2⟩
  · exact ⟨_, _, rfl, h1, h2⟩
def Hold (p : Prop) : Prop := p
theorem hold {p : Prop} (h : Hold p) : p := h
theorem in64 {z : Int} (h1 : -1000 ≤ z) (h2 : z ≤ 1000000) : In64 z := ⟨by omega, by omega⟩
theorem get_ok (h : Live w base p F y n g0 V V' N z) (hF : ∀ i, F i → i < w.heap.size) (ha : g0.d.armed = false) (hN : N ≤ 870000) {first : Int} (hq : In64 first) {len : Nat} (hl1 : 1 ≤ len) (hl2 : len ≤ 2000) {zl : Int} (hzl : ((len : Nat) : Int) = zl) {s : ByteArray} (hg : getL V' (need len) first len = some s.data.toList) :
    Calls Tryz.prog 15 #[.pointer (some ⟨y.x, 0, none⟩), .int .i64 first, .int .i64 zl] w fun e w' => e = .returned (.tuple #[.string s, .int .i64 0]) ∧ D5.Kp F w w' ∧ Live w' base p F y n g0 V V' (N + 9) z := by
  subst hzl
  refine (get_live h hF ha hN hq hl1 hl2).mono fun e w' hh => ?_
  obtain ⟨h1, h2, h3⟩ := hh
  rw [hg] at h1
  exact ⟨h1, h2, h3⟩
theorem get_no (h : Live w base p F y n g0 V V' N z) (hF : ∀ i, F i → i < w.heap.size) (ha : g0.d.armed = false) (hN : N ≤ 870000) {first : Int} (hq : In64 first) {len : Nat} (hl1 : 1 ≤ len) (hl2 : len ≤ 2000) {zl : Int} (hzl : ((len : Nat) : Int) = zl) (hg : getL V' (need len) first len = none) :
    Calls Tryz.prog 15 #[.pointer (some ⟨y.x, 0, none⟩), .int .i64 first, .int .i64 zl] w fun e w' => e = .returned (.tuple #[.string noE, .int .i64 29]) ∧ D5.Kp F w w' ∧ Live w' base p F y n g0 V V' (N + 9) z := by
  subst hzl
  refine (get_live h hF ha hN hq hl1 hl2).mono fun e w' hh => ?_
  obtain ⟨h1, h2, h3⟩ := hh
  rw [hg] at h1
  exact ⟨h1, h2, h3⟩
theorem pages_ok (h : Live w base p F y n g0 V V' N z) (hF : ∀ i, F i → i < w.heap.size) (ha : g0.d.armed = false) (hN : N ≤ 870000) {first : Int} (hq : In64 first) {l : List Int} (hg : pagesL V' 9 first = some l) :
    Calls Tryz.prog 21 #[.pointer (some ⟨y.x, 0, none⟩), .int .i64 first] w fun e w' => ∃ ao cap, e = .returned (.tuple #[.slice ao l.length cap, .int .i64 0]) ∧ RowZ w.heap.size l (.slice ao l.length cap) w' ∧ D5.Kp F w w' ∧ Live w' base p F y n g0 V V' (N + 9) z := by
  refine (pages_live h hF ha hN hq).mono fun e w' hh => ?_
  obtain ⟨h1, h2, h3⟩ := hh
  rw [hg] at h1
  obtain ⟨v, rfl, hR⟩ := h1
  obtain ⟨ao, cap, rfl⟩ := hR.shape
  exact ⟨ao, cap, rfl, hR, h2, h3⟩
theorem drop_ok (h : Live w base p F y n g0 V V' N z) (hF : ∀ i, F i → i < w.heap.size) (ha : g0.d.armed = false) (hN : N ≤ 870000) {first : Int} (hq : In64 first) {l : List Int} (hg : pagesL V' 9 first = some l) :
    Calls Tryz.prog 11 #[.pointer (some ⟨y.x, 0, none⟩), .int .i64 first] w fun e w' => e = .returned (.int .i64 0) ∧ ∃ n' z', n' ≤ n + 9 ∧ D5.Kp (FX F y) w w' ∧ Live w' base p F y n' g0 V (delL V' l) (N + 9) z' := by
  refine (chainDrop_live h hF ha hN hq).mono fun e w' hh => ?_
  obtain ⟨h1, h2⟩ := hh
  rw [hg] at h2
  obtain ⟨h2, n', z', h3, h4⟩ := h2
  exact ⟨h2, n', z', h3, h1, h4⟩
theorem drop_no (h : Live w base p F y n g0 V V' N z) (hF : ∀ i, F i → i < w.heap.size) (ha : g0.d.armed = false) (hN : N ≤ 870000) {first : Int} (hq : In64 first) (hg : pagesL V' 9 first = none) :
    Calls Tryz.prog 11 #[.pointer (some ⟨y.x, 0, none⟩), .int .i64 first] w fun e w' => e = .returned (.int .i64 29) ∧ D5.Kp (FX F y) w w' ∧ Live w' base p F y n g0 V V' (N + 9) z := by
  refine (chainDrop_live h hF ha hN hq).mono fun e w' hh => ?_
  obtain ⟨h1, h2⟩ := hh
  rw [hg] at h2
  exact ⟨h2.1, h1, h2.2⟩
end
theorem a300 : (Lib.repeatL [97] 300) = List.replicate 300 97 := by decide +kernel
set_option maxRecDepth 100000 in
set_option maxHeartbeats 8000000 in
theorem works_any {w : World} (hE : Env w) (h5 : 4 ≤ w.heap.size) : Calls Tryz.prog 6 #[] w fun e w' => e = .returned (.bool true) ∧ w.grownBy w' none := by
  have HFr := Lib.hid (show Calls Tryz.prog 7 #[.int .i64 64] w (FreshG w 64) from fresh_live hE h5 (m := 64) (by omega) (by omega))
  unfold FreshG at HFr
  obtain ⟨A, hA⟩ : ∃ A : ByteArray, A = ⟨(List.replicate 300 97).toArray⟩ := ⟨_, rfl⟩
  have hAz : A.size = 300 := by rw [hA]; exact List.length_replicate
  have hAl : A.data.toList = List.replicate 300 97 := by rw [hA]
  have HRep := Lib.hid (fun W => show Calls Tryz.prog 17 #[.string ⟨#[97]⟩, .int .i64 300] W (fun e w' => e = .returned (.string A) ∧ W.grownBy w' none) from (Tryz.strings_Repeat ⟨#[97]⟩ 300 W (by omega) (by decide)).mono fun e w' h => ⟨h.1.trans (by rw [hA]; exact congrArg (fun z => Ending.returned (Value.string ⟨List.toArray z⟩)) a300), gb_of_below h.2⟩)
  have HA := Lib.hid (And.intro hAz hAl)
  have HE := Lib.hid hE
  clear hE hA hAz hAl
  go_enter Tryz.func6, Tryz.ntmps6
  go_wp2_with (first
    | (go_at_call 7; (with_reducible refine HFr.out.mono ?_); rintro e w1 ⟨p, F, y, g0, rfl, hL, har, hsl, hre, hlf, hF, g1⟩; have hL := Lib.hid hL; have har := Lib.hid har; have hlf := Lib.hid hlf; have hF := Lib.hid hF; have g1 := Lib.hid g1)
    | (go_at_call 17; (with_reducible refine (HRep.out _).mono ?_); rintro e w2 ⟨rfl, g2⟩; have g2 := Lib.hid g2)
    | fail)
  clear hsl hre
  have z1 := g1.out.size
  have z2 := g2.out.size
  have G2 := Lib.hid (gb_trans g1.out g2.out)
  have L2 := Lib.hid (hL.out.keep0 g2.out)
  have HPt := Lib.hid (put_first L2.out (fun i hi => by have := (hF.out i hi).2; omega) (env_gb HE.out G2.out) h5 (by omega) (s := A) (by have := HA.out.1; omega) (by have := HA.out.1; omega) (by rw [HA.out.1]; decide) (m := 2) (by rw [HA.out.1]; rfl) (q := 2) rfl)
  unfold PutR at HPt
  go_wp2_with (first
    | (go_at_call 9; (with_reducible refine HPt.out.mono ?_); rintro e w3 ⟨rfl, n3, Vc, hn3, k3, ⟨hMd, hLw⟩, hCh, hl2, hLv, hcn⟩; have k3 := Lib.hid k3; have HM := Lib.hid hMd; have HC := Lib.hid hCh; have L3 := Lib.hid hLv)
    | fail)
  have z3 := k3.out.size
  have G3 := Lib.hid (gb_kp G2.out k3.out (fun i hi => L2.out.base_le i hi))
  obtain ⟨hg1, hg2⟩ := get_300 hCh (by rw [HA.out.2, List.length_replicate])
  have hg0 : getL Vc (need 300) 2 300 = some A.data.toList := by
    have := Ch.get hCh 2 (fun q qs e => by cases e; rfl)
    rwa [HA.out.2, List.length_replicate, ← HA.out.2] at this
  have hpg : pagesL Vc 9 2 = some [2, 1] := Ch.pages 9 hCh 2 [1] rfl (by decide)
  have hF3 : ∀ i, F i → i < w3.heap.size := fun i hi => by have := (hF.out i hi).2; omega
  have HF3 := Lib.hid hF3
  have HQ1 := Lib.hid (get_ok hLv hF3 har.out (by omega) (in64 (by omega) (by omega)) (len := 300) (by omega) (by omega) (zl := 300) rfl hg0)
  have HP9 := Lib.hid hpg
  have HQ2 := Lib.hid hg1
  have HQ3 := Lib.hid hg2
  clear hMd hLw hCh hl2 hLv hcn hg0 hg1 hg2 hpg hF3 HPt
  go_wp2_with (first
    | (go_at_call 15; (with_reducible refine HQ1.out.mono ?_); rintro e w4 ⟨rfl, k4, L4⟩; have k4 := Lib.hid k4; have L4 := Lib.hid L4)
    | fail)
  have z4 := k4.out.size
  have HF4 := Lib.hid (fun i hi => show i < w4.heap.size from by have := HF3.out i hi; omega)
  have HQ4 := Lib.hid (get_no L4.out HF4.out har.out (by omega) (first := 2) (in64 (by omega) (by omega)) (len := 299) (by omega) (by omega) (zl := 299) rfl HQ2.out)
  go_wp2_with (first
    | (go_at_call 15; (with_reducible refine HQ4.out.mono ?_); rintro e w5 ⟨rfl, k5, L5⟩; have k5 := Lib.hid k5; have L5 := Lib.hid L5)
    | fail)
  have z5 := k5.out.size
  have HF5 := Lib.hid (fun i hi => show i < w5.heap.size from by have := HF4.out i hi; omega)
  obtain ⟨U, hU⟩ : ∃ U : ByteArray, U.data.toList = A.data.toList.drop 238 := ⟨⟨(A.data.toList.drop 238).toArray⟩, rfl⟩
  have HQ5 := Lib.hid (get_ok L5.out HF5.out har.out (by omega) (first := 1) (in64 (by omega) (by omega)) (len := 62) (by omega) (by omega) (zl := 62) rfl (s := U) (by rw [hU]; exact HQ3.out))
  have HU := Lib.hid hU
  clear hU
  go_wp2_with (first
    | (go_at_call 15; (with_reducible refine HQ5.out.mono ?_); rintro e w6 ⟨rfl, k6, L6⟩; have k6 := Lib.hid k6; have L6 := Lib.hid L6)
    | fail)
  have z6 := k6.out.size
  have HF6 := Lib.hid (fun i hi => show i < w6.heap.size from by have := HF5.out i hi; omega)
  have HQ6 := Lib.hid (pages_ok L6.out HF6.out har.out (by omega) (first := 2) (in64 (by omega) (by omega)) HP9.out)
  go_wp2_with (first
    | (go_at_call 21; (with_reducible refine HQ6.out.mono ?_); rintro e w7 ⟨ao, cap, rfl, hR, k7, L7⟩; obtain ⟨g, rfl, d0⟩ := row_at hR (k := 0) (z := 2) rfl; obtain ⟨g', e', d1⟩ := row_at hR (k := 1) (z := 1) rfl; cases e'; have k7 := Lib.hid k7; have L7 := Lib.hid L7; clear hR)
    | (go_at_call 11; refine hold ?_)
    | fail)
  have z7 := k7.out.size
  have HF7 := Lib.hid (fun i hi => show i < w7.heap.size from by have := HF6.out i hi; omega)
  have G7 := Lib.hid (gb_kp G3.out (((k4.out.trans k5.out).trans k6.out).trans k7.out) (fun i hi => (hF.out i hi).1))
  have HQ7 := Lib.hid (drop_ok L7.out HF7.out har.out (by omega) (first := 2) (in64 (by omega) (by omega)) HP9.out)
  have HBk := Lib.hid (show delL Vc [2, 1] = V0 from HM.out.back)
  rw [HBk.out] at HQ7
  have HND := Lib.hid (fun W => need_any 239 (in64 (by omega) (by omega)) W)
  rw [show needZ 239 = 2 from rfl] at HND
  have hA3 : ((A.size : Nat) : Int) = 300 := by rw [HA.out.1]; rfl
  have hUx : A.extract 0 62 = U := by
    have e : (A.extract 0 62).data.toList = U.data.toList := by
      rw [C7.extract_list, HU.out, HA.out.2]; decide +kernel
    have e2 : (⟨(A.extract 0 62).data.toList.toArray⟩ : ByteArray) = ⟨U.data.toList.toArray⟩ := by rw [e]
    exact e2
  unfold Hold
  go_wp2_with (first
    | (go_at_call 11; (with_reducible refine HQ7.out.mono ?_); rintro e w8 ⟨rfl, n8, z8', hn8, k8, L8⟩; have k8 := Lib.hid k8; have HPS := Lib.hid (txp_row L8 (c := 0) cntV_nil); have L8 := Lib.hid L8)
    | (go_at_call 12; (with_reducible refine HPS.out.mono ?_); rintro e w9 ⟨ao9, cap9, rfl, -, g9⟩; have g9 := Lib.hid g9)
    | (go_at_call 10; (with_reducible refine (HND.out _).mono ?_); rintro e w10 ⟨rfl, rfl⟩)
    | fail)
  go_ret
  exact ⟨rfl, gb_trans (gb_kp G7.out k8.out (fun i hi => FX.ge L7.out (fun i hi => (hF.out i hi).1) hi)) g9.out⟩
end Go.Proofs.YtliiooldlooagaaGreatDoor.O12

/-
  Acts that came in; how many sectors are left; Put where there is no room; pages as a row; over this seat's translation; conditions: those that each law states.
-/
namespace Go.Proofs.YtliiooldlooagaaGreatDoor.O12
open Go.RowKit Go.Maps Go.Shelf J10
/-- An act. -/
structure Wx where
  what : UInt8
  of_ : UInt8
  long : UInt16
def wxV (x : Wx) : Array Value := actW x.what x.of_ x.long
def wxsC (l : List Wx) : List Value := l.flatMap fun x => (wxV x).toList
theorem wxsC_length : ∀ l : List Wx, (wxsC l).length = l.length * 3
  | [] => rfl
  | x :: l => by
    have ih := wxsC_length l
    unfold wxsC at ih ⊢
    rw [List.flatMap_cons, List.length_append, ih]
    show 3 + _ = (l.length + 1) * 3
    omega
theorem wxsC_at : ∀ (l : List Wx) (k : Nat) (hk : k < l.length) (j : Nat) (_ : j < 3), (wxsC l)[k * 3 + j]? = (wxV l[k]).toList[j]?
  | [], _, hk, _, _ => by simp at hk
  | x :: l, 0, _, j, hj => by
    unfold wxsC
    rw [List.flatMap_cons, Nat.zero_mul, Nat.zero_add, List.getElem?_append_left (by show j < 3; exact hj)]
    rfl
  | x :: l, k + 1, hk, j, hj => by
    have ih := wxsC_at l k (by simpa using hk) j hj
    unfold wxsC at ih ⊢
    rw [List.flatMap_cons, List.getElem?_append_right (by show 3 ≤ _; omega)]
    rw [show (k + 1) * 3 + j - (wxV x).toList.length = k * 3 + j by show _ - 3 = _; omega, ih]
    rfl
/-- A slice of acts. -/
def Wxs (w : World) (v : Value) (l : List Wx) : Prop := Sl 3 w v l.length (wxsC l)
theorem wx_cells {w W : World} {ad : Addr} {n cap : Nat} {l : List Wx} (h : Wxs w (.slice (some ad) n cap) l) (g : w.grownBy W none) {j : Nat} (hj : j < l.length) {x : Wx} (e : l[j] = x) :
    W.cell? (ad.add (j * 3)) = some (.int .u8 (x.what.toNat : Nat)) ∧ W.cell? ⟨(ad.add (j * 3)).block, (ad.add (j * 3)).off + 1, none⟩ = some (.int .u8 (x.of_.toNat : Nat)) ∧ W.cell? ⟨(ad.add (j * 3)).block, (ad.add (j * 3)).off + 2, none⟩ = some (.int .u16 (x.long.toNat : Nat)) := by
  subst e
  obtain ⟨ao, cp, e, _, _, _, hx⟩ := h
  cases e
  have one : ∀ k v, (wxV l[j]).toList[k]? = some v → W.cell? ((ad.add (j * 3)).add k) = some v := fun k v hv => by
    have hk : k < 3 := (List.getElem?_eq_some_iff.1 hv).1
    rw [add_add]
    exact g.cell (hx ad rfl (j * 3 + k) v ((wxsC_at l j hj k hk).trans hv)) (by simp)
  exact ⟨one 0 _ rfl, one 1 _ rfl, one 2 _ rfl⟩
section
variable {w : World} {base p : Nat} {F : Nat → Prop} {y : Bx} {n : Nat} {g0 : Pg} {V' : Pgs} {N z : Nat}
/-- How many are left. -/
theorem live_left (h : Live w base p F y n g0 V0 V' N z) : z + cntV V' = M6.leftF g0.m := by
  obtain ⟨k, g, T, h1, h2, ⟨s, rfl, _, _⟩, h4, h5, h6⟩ := h
  have := h5.tx.left h5.st.sto
  have e := Over.own h5
  rw [e, h6] at this
  exact this
theorem put_noroom {V : Pgs} (h : Live w base p F y n g0 V V' N z) (hF : ∀ i, F i → i < w.heap.size) (hE : Env w) (b5 : 4 ≤ base) (hn : n < 900000) {s : ByteArray} (hs1 : 1 ≤ s.size) (hs2 : s.size ≤ 2000) (hz : z < need s.size) (hc : cntV V' + need s.size ≤ 960) :
    Calls Tryz.prog 9 #[.pointer (some ⟨y.x, 0, none⟩), .string s] w fun e w' => e = .returned (.tuple #[.int .i64 0, .int .i64 11]) ∧ ∃ n' z', n' ≤ n + 30 ∧ D5.Kp (footT y) w w' ∧ Live w' base p F y n' g0 V V' N z' :=
  (put_live h hF hE b5 hn hs1 hs2).mono fun e w' hh => by
    obtain ⟨n', hn', k, hcase⟩ := hh
    rcases hcase with ⟨ps, Vc, rfl, hM, hCh, hL, hle, hcn⟩ | ⟨e1, _, z', h1⟩ | ⟨_, h1, _⟩
    · have hl : ps.length = need s.size := hCh.length.trans (by rw [Array.length_toList]; rfl)
      omega
    · exact ⟨e1, n', z', hn', k, h1⟩
    · omega
theorem own_at {B : Nat} {l : List Nat} {ao : Option Addr} {c c' cap : Nat} {W : World} (h : W.ownsRow B 3 1 (.slice ao c cap) c' (intsC l)) {k m : Nat} (hk : l[k]? = some m) : ∃ g, ao = some ⟨g, 0, none⟩ ∧ W.cell? ⟨g, k, none⟩ = some (.int .i64 (m : Nat)) := by
  obtain ⟨hlt, hk2⟩ := List.getElem?_eq_some_iff.1 hk
  have hl := h.1
  unfold intsC at hl
  rw [List.length_map] at hl
  rcases h.2 with ⟨e, h0⟩ | ⟨g, cap', cur, e, hb, hh, hc, hm, hs, ht⟩
  · omega
  · cases e
    have c0 := World.ownsRow.cells h (g := g) rfl k (.int .i64 (m : Nat)) (by unfold intsC; rw [List.getElem?_map, hk]; rfl)
    refine ⟨g, rfl, ?_⟩
    unfold Addr.add at c0
    by_cases e : k = 0
    · subst e; exact c0
    · rw [if_neg e] at c0
      simpa using c0
theorem own_kp {B : Nat} {e : TypeId} {c size : Nat} {v : Value} {xs : List Value} {F : Nat → Prop} {W W' : World} (h : W.ownsRow B e size v c xs) (k : D5.Kp F W W') (hF : ∀ i, F i → i < B) : W'.ownsRow B e size v c xs :=
  D5.Kp.row k h (fun k e hf => by have := (h.lt k e).1; have := hF k hf; omega)
end
end Go.Proofs.YtliiooldlooagaaGreatDoor.O12
