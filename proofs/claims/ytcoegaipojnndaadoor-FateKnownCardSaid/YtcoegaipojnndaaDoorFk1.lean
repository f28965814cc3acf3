/-
  FateKnown's calls with their examples, each as the walk meets it: over this seat's translation; conditions: those that each law states.
-/
import Derived.Test.YtcoegaipojnndaaDoorFk0
namespace Go.Proofs.YtcoegaipojnndaaDoor
open Go.RowKit

theorem bts_nil (w : World) : Bts w (.slice none 0 0) [] := Sl.nil _ _
theorem bls_nil (w : World) : Bls w (.slice none 0 0) [] := Sl.nil _ _
theorem add_none (a : Addr) : a.add 0 = a := by unfold Addr.add; simp
/-- A fate read: its list's length, torn. -/
def ReadK (w : World) (N : Nat) (T x : Int) (l : List Bool) (e : Ending) (w' : World) : Prop :=
  ∃ ao cap, e = .returned (.agg #[.slice ao N cap, .int .i64 T, .int .i64 x]) ∧ Bls w' (.slice ao N cap) l ∧ w.grownBy w' none
theorem read_k (vc : Value) (cs : List UInt8) (n : Int) (w : World) (N : Nat) (T x : Int) (l : List Bool) (hm : Masks w) (hv : Bts w vc cs) (h1 : -9223372036854775808 ≤ n) (h2 : n ≤ 9223372036854775807)
    (hl : l = cameF cs (manyN n)) (hN : l.length = N) (hT : tornF cs (manyN n) = T) (hx : x = atF cs (manyN n)) :
    Calls Tryd.prog 9 #[vc, .int .i64 n] w (ReadK w N T x l) := by
  refine (read_any vc cs n w hm hv h1 h2).mono ?_
  rintro e w' ⟨v, rfl, hb, g⟩
  rw [← hl] at hb
  have hb0 := hb
  obtain ⟨ao, cap, rfl, _⟩ := hb0
  rw [hT, ← hx]
  rw [hN] at hb ⊢
  exact ⟨ao, cap, rfl, hb, g⟩
theorem whole_k (n : Int) (N : Nat) (w : World) (h1 : -9223372036854775808 ≤ n) (h2 : n ≤ 9223372036854775807) (hN : manyN n = N) :
    Calls Tryd.prog 12 #[.int .i64 n] w (ReadK w N (-1) 0 (List.replicate N true)) := by
  refine (whole_any n w h1 h2).mono ?_
  rintro e w' ⟨v, rfl, hb, g⟩
  rw [hN] at hb
  have hb0 := hb
  obtain ⟨ao, cap, rfl, _⟩ := hb0
  rw [List.length_replicate] at hb ⊢
  exact ⟨ao, cap, rfl, hb, g⟩
/-- One sector that has come back. -/
def OneK (w : World) (c : ByteArray) (e : Ending) (w' : World) : Prop :=
  ∃ p cap, e = .returned (.slice (some p) 1 cap) ∧ w'.cell? p = some (.string c) ∧ w.grownBy w' none
theorem after_k (vs vl v : Value) (ss : List ByteArray) (ws : List (Int × ByteArray)) (b : List Bool) (t a : Int) (c : ByteArray) (w : World) (hs : Sts w vs ss) (hl : Wts w vl ws) (hv : Bls w v b) (hb : b.length ≤ 1000000) (hss : ss.length ≤ 1000) (hws : ws.length ≤ 1000) (hw : Whole256 ss)
    (h1 : -9223372036854775808 ≤ a) (h2 : a ≤ 9223372036854775807) (hc : afterF ss ws b t a = [c]) : Calls Tryd.prog 11 #[vs, vl, .agg #[v, .int .i64 t, .int .i64 a]] w (OneK w c) := by
  refine (after_any vs vl v ss ws b t a w hs hl hv hb hss hws hw h1 h2).mono ?_
  rintro e w' ⟨r, rfl, hr, g⟩
  rw [hc] at hr
  obtain ⟨p, cap, rfl, _, hcell⟩ := Sl.some hr (by simp)
  have := hcell 0 (.string c) rfl
  rw [add_none] at this
  exact ⟨p, cap, rfl, this, g⟩
def shortS : ByteArray := ⟨#[115, 104, 111, 114, 116]⟩
theorem after_all4 : afterF [secS 97] [(0, secS 120), (1, secS 121), (-1, secS 122), (0, shortS)] (List.replicate 4 true) (-1) 0 = [secS 120] := by decide +kernel
theorem after_none4 : afterF [secS 97] [(0, secS 120), (1, secS 121), (-1, secS 122), (0, shortS)] [] (-1) 0 = [secS 97] := by decide +kernel
theorem whole97 : Whole256 [secS 97] := by
  intro s h
  obtain rfl : s = secS 97 := by simpa using h
  exact secS_size 97
/-- What the six readings have. -/
theorem l_a : (cameF [5, 128, 0, 0] (manyN 3)).length = 3 := by decide +kernel
theorem l_b : (cameF [5, 1, 0] (manyN 3)).length = 3 := by decide +kernel
theorem l_c : (cameF [2, 3, 1, 1] (manyN 2)).length = 2 := by decide +kernel
theorem l_d : (cameF [255] (manyN (-1))).length = 0 := by decide +kernel
theorem l_g : (cameF [] (manyN 5000)).length = 4096 := by decide +kernel
theorem l_h : (cameF [0, 0, 0, 9] (manyN 8)).length = 8 := by decide +kernel
theorem a_first {w : World} {ao : Option Addr} {cap : Nat} {l : List Bool} (hb : Bls w (.slice ao 3 cap) l) (hl : l = cameF [5, 128, 0, 0] (manyN 3)) : ∃ a, ao = some a ∧ w.cell? a = some (.bool true) := by
  have hlen : l.length = 3 := by rw [hl]; exact l_a
  have h0 : (bools l)[0]? = some (.bool true) := by
    have := bools_at (l := l) (j := 0) (by omega)
    rw [this]
    have hk := k_a.1
    rw [← hl] at hk
    have : l[0]'(by omega) = true := by
      rw [List.getD_eq_getElem?_getD, List.getElem?_eq_getElem (by omega)] at hk
      simpa using hk
    rw [this]
  have hb' : Sl 1 w (.slice ao 3 cap) 3 (bools l) := by rw [← hlen]; rw [hlen]; have := hb; unfold Bls at this; rw [hlen] at this; exact this
  obtain ⟨a, c2, e, _, hc⟩ := Sl.some hb' (by decide)
  injection e with e1 _ _
  have := hc 0 _ h0
  rw [add_none] at this
  exact ⟨a, e1, this⟩
theorem field_k (ao : Option Addr) (n cap : Nat) (x y : Int) (w : World) : (Instr.field 25 (.agg #[.slice ao n cap, .int .i64 x, .int .i64 y]) 0).run Tryd.prog w = .ok (.slice ao n cap) w := by kernel_rfl
/-- Three boxes of one kind made one behind the other. -/
theorem three_new (w : World) (A B C : Array Value) (t : TypeId) : ∃ w', w' = ((w.alloc (.cells A t)).alloc (.cells B t)).alloc (.cells C t) ∧ w'.heap.size = w.heap.size + 1 + 1 + 1 ∧ Blk w' w.heap.size t A ∧ Blk w' (w.heap.size + 1) t B ∧ Blk w' (w.heap.size + 1 + 1) t C ∧ w.grownBy w' none := by
  refine ⟨_, rfl, by simp, ((Blk.mk w t A).keep0 (gb_alloc _ _ _)).keep0 (gb_alloc _ _ _), ?_, ?_, gb_trans (gb_alloc _ _ _) (gb_trans (gb_alloc _ _ _) (gb_alloc _ _ _))⟩
  · have := (Blk.mk (w.alloc (.cells A t)) t B).keep0 (gb_alloc _ (.cells C t) none)
    rw [World.size_alloc] at this
    exact this
  · have := Blk.mk ((w.alloc (.cells A t)).alloc (.cells B t)) t C
    rw [World.size_alloc, World.size_alloc] at this
    exact this
theorem sec_k (z : Int) (c : UInt8) (X : ByteArray) (w : World) (hz : z = (c.toNat : Nat)) (hX : X = secS c) : Calls Tryd.prog 10 #[.int .u8 z] w (fun e w' => e = .returned (.string X) ∧ w.grownBy w' none) := by
  subst hX
  exact (sector_any z c w hz).mono fun _ _ h => h
end Go.Proofs.YtcoegaipojnndaaDoor

