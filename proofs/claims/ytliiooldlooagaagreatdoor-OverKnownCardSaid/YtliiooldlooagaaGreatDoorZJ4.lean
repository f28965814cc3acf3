/-
  Texts of one layer, one behind the other, each with its own sentence; conditions: those that each law states.
-/
import Derived.Defers
import Derived.Recover
import Derived.Test.YtliiooldlooagaaGreatDoorZC5
import Derived.Test.YtliiooldlooagaaGreatDoorZD5
import Derived.Test.YtliiooldlooagaaGreatDoorZJ2
import Derived.Test.YtliiooldlooagaaGreatDoorZJ3
import Derived.Test.YtliiooldlooagaaGreatDoorZM2
import Derived.Test.YtliiooldlooagaaGreatDoorZR5
import Derived.Test.YtliiooldlooagaaGreatDoorZT4
set_option linter.unusedSimpArgs false
set_option linter.unusedVariables false

/-
  How a pager and a transaction lie in memory, and what is kept of them where blocks are written; conditions: those that each law states.
-/
namespace Go.Proofs.YtliiooldlooagaaGreatDoor.J10
open Go.RowKit Go.Maps
/-- A pager, as plain mathematics; a transaction. -/
structure Pg where
  d : D5.St
  r : R8.Rt
  wh : Int
  t : T9.TB
  m : List Bool
  dead : Bool
  busy : Bool
structure Tr where
  t : T9.TB
  m : List Bool
  X : Pgs
def pp (b : Nat) : Value := .pointer (some ⟨b, 0, none⟩)
def pgL (dp tb mb : Nat) (r : R8.Rt) (wh : Int) (dead busy : Bool) : List Value := pp dp :: (R8.rootC r ++ [.int .i64 wh, pp tb, pp mb, .bool dead, .bool busy])
theorem eight {l : List Int} (h : l.length = 8) : ∃ a b c d e f g i, l = [a, b, c, d, e, f, g, i] := by
  rcases l with _ | ⟨a, _ | ⟨b, _ | ⟨c, _ | ⟨d, _ | ⟨e, _ | ⟨f, _ | ⟨g, _ | ⟨i, _ | ⟨j, l⟩⟩⟩⟩⟩⟩⟩⟩⟩
  all_goals first | (exact ⟨_, _, _, _, _, _, _, _, rfl⟩) | (simp at h)
/-- The blocks of a pager, and those of a transaction. -/
structure Bk where
  p : Nat
  dp : Nat
  vs : Value
  vp : Value
  bm : Nat
  D : DataW Unit
  tb : Nat
  mb : Nat
structure Bx where
  x : Nat
  tb : Nat
  mb : Nat
  bm : Nat
structure PgV (w : World) (base : Nat) (k : Bk) (g : Pg) : Prop where
  blk : Blk w k.p 86 (pgL k.dp k.tb k.mb g.r g.wh g.dead g.busy).toArray
  disk : D5.PDv w base k.dp k.vs k.vp k.bm k.D g.d
  tab : T9.PT w k.tb g.t
  map : M6.PM w k.mb g.m
  len : g.r.cs.length = 8
  bp : base ≤ k.p
  bt : base ≤ k.tb
  bmb : base ≤ k.mb
def footG (k : Bk) (i : Nat) : Prop := i = k.p ∨ D5.footP k.dp k.vs k.vp k.bm i ∨ i = k.tb ∨ i = k.mb
def txC (p : Nat) (y : Bx) : Array Value := #[pp p, pp y.tb, pp y.mb, .map (some y.bm), .bool false]
structure TxV (w : World) (base : Nat) (k : Bk) (y : Bx) (n : Nat) (g : Pg) (T : Tr) : Prop where
  pg : PgV w base k g
  blk : Blk w y.x 74 (txC k.p y)
  tab : T9.PT w y.tb T.t
  map : M6.PM w y.mb T.m
  txt : Mp w y.bm n T.X
  ntb : y.tb ≠ k.tb
  nmb : y.mb ≠ k.mb
  nbm : y.bm ≠ k.bm
  bx : base ≤ y.x
  bt : base ≤ y.tb
  bmb : base ≤ y.mb
  bbm : base ≤ y.bm
def footX (k : Bk) (y : Bx) (i : Nat) : Prop := footG k i ∨ i = y.x ∨ i = y.tb ∨ i = y.mb ∨ i = y.bm
theorem blk_ne {w : World} {a b : Nat} {t t' : TypeId} {vs vs' : Array Value} (h : Blk w a t vs) (h' : Blk w b t' vs') (ht : t ≠ t') : a ≠ b := by
  rintro rfl
  unfold Blk at h h'
  rw [h] at h'
  injection h' with h'
  injection h' with _ h' _
  exact ht h'
theorem mp_blk {w : World} {a b n : Nat} {t : TypeId} {vs : Array Value} {f : Pgs} (h : Mp w a n f) (h' : Blk w b t vs) : a ≠ b := by
  rintro rfl
  obtain ⟨D, ⟨es, clock, hb, _⟩, _⟩ := h
  unfold Blk at h'
  rw [hb] at h'
  cases h'
theorem mp_row {w : World} {a n m base size : Nat} {e : TypeId} {v : Value} {xs : List Value} {f : Pgs} (h : Mp w a n f) (o : w.ownsRow base e size v m xs) : v.ownBlock ≠ some a := by
  obtain ⟨D, h, _⟩ := h
  exact D5.map_row h o
theorem pdv_frame {w w' : World} {base p : Nat} {vs vp : Value} {bm : Nat} {D : DataW Unit} {s : D5.St} {G : Nat → Prop} (h : D5.PDv w base p vs vp bm D s) (g : D5.Kp G w w') (hd : ∀ k, D5.footP p vs vp bm k → ¬ G k) : D5.PDv w' base p vs vp bm D s :=
  ⟨g.blk h.1 (hd _ (.inl rfl)), g.row h.2.1 (fun k e => hd k (.inr (.inr (.inl e)))), g.row h.2.2.1 (fun k e => hd k (.inr (.inr (.inr e)))), g.map h.2.2.2.1 (hd _ (.inr (.inl rfl))), h.2.2.2.2⟩
theorem kp_pt {F : Nat → Prop} {w w' : World} {p : Nat} {s : T9.TB} (g : D5.Kp F w w') (h : T9.PT w p s) (hf : ¬ F p) : T9.PT w' p s := ⟨g.blk h.1 hf, h.2⟩
theorem kp_pm {F : Nat → Prop} {w w' : World} {p : Nat} {us : List Bool} (g : D5.Kp F w w') (h : M6.PM w p us) (hf : ¬ F p) : M6.PM w' p us := g.blk h hf
theorem PgV.frame {w w' : World} {base : Nat} {k : Bk} {g : Pg} {G : Nat → Prop} (h : PgV w base k g) (e : D5.Kp G w w') (hd : ∀ i, footG k i → ¬ G i) : PgV w' base k g :=
  ⟨e.blk h.blk (hd _ (.inl rfl)), pdv_frame h.disk e (fun i hi => hd i (.inr (.inl hi))), kp_pt e h.tab (hd _ (.inr (.inr (.inl rfl)))), kp_pm e h.map (hd _ (.inr (.inr (.inr rfl)))), h.len, h.bp, h.bt, h.bmb⟩
theorem TxV.frame {w w' : World} {base n : Nat} {k : Bk} {y : Bx} {g : Pg} {T : Tr} {G : Nat → Prop} (h : TxV w base k y n g T) (e : D5.Kp G w w') (hd : ∀ i, footX k y i → ¬ G i) : TxV w' base k y n g T :=
  ⟨h.pg.frame e (fun i hi => hd i (.inl hi)), e.blk h.blk (hd _ (.inr (.inl rfl))), kp_pt e h.tab (hd _ (.inr (.inr (.inl rfl)))), kp_pm e h.map (hd _ (.inr (.inr (.inr (.inl rfl))))), h.txt.kp e (hd _ (.inr (.inr (.inr (.inr rfl))))), h.ntb, h.nmb, h.nbm, h.bx, h.bt, h.bmb, h.bbm⟩
theorem kp_none {F : Nat → Prop} {w w' : World} (g : w.grownBy w' none) : D5.Kp F w w' := D5.Kp.of0 g
theorem PgV.keep0 {w w' : World} {base : Nat} {k : Bk} {g : Pg} (h : PgV w base k g) (e : w.grownBy w' none) : PgV w' base k g := h.frame (G := fun _ => False) (D5.Kp.of0 e) (fun _ _ h => h)
theorem TxV.keep0 {w w' : World} {base n : Nat} {k : Bk} {y : Bx} {g : Pg} {T : Tr} (h : TxV w base k y n g T) (e : w.grownBy w' none) : TxV w' base k y n g T := h.frame (G := fun _ => False) (D5.Kp.of0 e) (fun _ _ h => h)
/-- The disk's blocks are no others. -/
theorem disk_apart {w : World} {base dp : Nat} {vs vp : Value} {bm : Nat} {D : DataW Unit} {s : D5.St} (h : D5.PDv w base dp vs vp bm D s) {b : Nat} {t : TypeId} {cs : Array Value} (hb : Blk w b t cs) (h1 : t ≠ 114) (h2 : t ≠ 9) (h3 : t ≠ 105) : ¬ D5.footP dp vs vp bm b := by
  rintro (e | e | e | e)
  · exact blk_ne hb h.1 h1 e
  · exact D5.map_blk h.2.2.2.1 hb e
  · exact D5.blk_row hb h.2.1 h2 e
  · exact D5.blk_row hb h.2.2.1 h3 e
theorem disk_apart_map {w : World} {base dp : Nat} {vs vp : Value} {bm : Nat} {D : DataW Unit} {s : D5.St} (h : D5.PDv w base dp vs vp bm D s) {b n : Nat} {f : Pgs} (hb : Mp w b n f) (hne : b ≠ bm) : ¬ D5.footP dp vs vp bm b := by
  rintro (e | e | e | e)
  · exact mp_blk hb h.1 e
  · exact hne e
  · exact mp_row hb h.2.1 e
  · exact mp_row hb h.2.2.1 e
theorem PgV.ne_p {w : World} {base : Nat} {k : Bk} {g : Pg} (h : PgV w base k g) : ¬ D5.footP k.dp k.vs k.vp k.bm k.p ∧ k.p ≠ k.tb ∧ k.p ≠ k.mb := ⟨disk_apart h.disk h.blk (by decide) (by decide) (by decide), blk_ne h.blk h.tab.1 (by decide), blk_ne h.blk h.map (by decide)⟩
theorem PgV.ne_tb {w : World} {base : Nat} {k : Bk} {g : Pg} (h : PgV w base k g) : ¬ D5.footP k.dp k.vs k.vp k.bm k.tb ∧ k.tb ≠ k.mb := ⟨disk_apart h.disk h.tab.1 (by decide) (by decide) (by decide), blk_ne h.tab.1 h.map (by decide)⟩
theorem PgV.ne_mb {w : World} {base : Nat} {k : Bk} {g : Pg} (h : PgV w base k g) : ¬ D5.footP k.dp k.vs k.vp k.bm k.mb := disk_apart h.disk h.map (by decide) (by decide) (by decide)
/-- A transaction's own blocks are none of its pager's. -/
theorem TxV.far {w : World} {base n : Nat} {k : Bk} {y : Bx} {g : Pg} {T : Tr} (h : TxV w base k y n g T) : ¬ footG k y.x ∧ ¬ footG k y.tb ∧ ¬ footG k y.mb ∧ ¬ footG k y.bm := by
  refine ⟨?_, ?_, ?_, ?_⟩
  · rintro (e | e | e | e)
    · exact blk_ne h.blk h.pg.blk (by decide) e
    · exact disk_apart h.pg.disk h.blk (by decide) (by decide) (by decide) e
    · exact blk_ne h.blk h.pg.tab.1 (by decide) e
    · exact blk_ne h.blk h.pg.map (by decide) e
  · rintro (e | e | e | e)
    · exact blk_ne h.tab.1 h.pg.blk (by decide) e
    · exact disk_apart h.pg.disk h.tab.1 (by decide) (by decide) (by decide) e
    · exact h.ntb e
    · exact blk_ne h.tab.1 h.pg.map (by decide) e
  · rintro (e | e | e | e)
    · exact blk_ne h.map h.pg.blk (by decide) e
    · exact disk_apart h.pg.disk h.map (by decide) (by decide) (by decide) e
    · exact blk_ne h.map h.pg.tab.1 (by decide) e
    · exact h.nmb e
  · rintro (e | e | e | e)
    · exact mp_blk h.txt h.pg.blk e
    · exact disk_apart_map h.pg.disk h.txt h.nbm e
    · exact mp_blk h.txt h.pg.tab.1 e
    · exact mp_blk h.txt h.pg.map e
theorem TxV.own {w : World} {base n : Nat} {k : Bk} {y : Bx} {g : Pg} {T : Tr} (h : TxV w base k y n g T) : y.x ≠ y.tb ∧ y.x ≠ y.mb ∧ y.x ≠ y.bm ∧ y.tb ≠ y.mb ∧ y.tb ≠ y.bm ∧ y.mb ≠ y.bm :=
  ⟨blk_ne h.blk h.tab.1 (by decide), blk_ne h.blk h.map (by decide), fun e => mp_blk h.txt h.blk e.symm, blk_ne h.tab.1 h.map (by decide), fun e => mp_blk h.txt h.tab.1 e.symm, fun e => mp_blk h.txt h.map e.symm⟩
theorem kp_one {w w' : World} {b : Nat} (g : w.grownBy w' (some b)) : D5.Kp (fun i => i = b) w w' := D5.Kp.of g (fun k e => by cases e; rfl)
/-- The transaction's table, map, texts are written. -/
theorem TxV.setT {w w' : World} {base n : Nat} {k : Bk} {y : Bx} {g : Pg} {T : Tr} (h : TxV w base k y n g T) (e : w.grownBy w' (some y.tb)) {t' : T9.TB} (ht : T9.PT w' y.tb t') : TxV w' base k y n g { T with t := t' } := by
  obtain ⟨_, f2, _, _⟩ := h.far
  obtain ⟨o1, o2, o3, o4, o5, o6⟩ := h.own
  exact ⟨h.pg.frame (kp_one e) (fun i hi e2 => f2 (e2 ▸ hi)), h.blk.keep e (ne_some o1), ht, h.map.keep e (ne_some (Ne.symm o4)), h.txt.keep e (ne_some (Ne.symm o5)), h.ntb, h.nmb, h.nbm, h.bx, h.bt, h.bmb, h.bbm⟩
theorem TxV.setM {w w' : World} {base n : Nat} {k : Bk} {y : Bx} {g : Pg} {T : Tr} (h : TxV w base k y n g T) (e : w.grownBy w' (some y.mb)) {m' : List Bool} (ht : M6.PM w' y.mb m') : TxV w' base k y n g { T with m := m' } := by
  obtain ⟨_, _, f3, _⟩ := h.far
  obtain ⟨o1, o2, o3, o4, o5, o6⟩ := h.own
  exact ⟨h.pg.frame (kp_one e) (fun i hi e2 => f3 (e2 ▸ hi)), h.blk.keep e (ne_some o2), h.tab.keep e (ne_some o4), ht, h.txt.keep e (ne_some (Ne.symm o6)), h.ntb, h.nmb, h.nbm, h.bx, h.bt, h.bmb, h.bbm⟩
theorem TxV.setX {w w' : World} {base n n' : Nat} {k : Bk} {y : Bx} {g : Pg} {T : Tr} (h : TxV w base k y n g T) (e : w.grownBy w' (some y.bm)) {X' : Pgs} (ht : Mp w' y.bm n' X') : TxV w' base k y n' g { T with X := X' } := by
  obtain ⟨_, _, _, f4⟩ := h.far
  obtain ⟨o1, o2, o3, o4, o5, o6⟩ := h.own
  exact ⟨h.pg.frame (kp_one e) (fun i hi e2 => f4 (e2 ▸ hi)), h.blk.keep e (ne_some o3), h.tab.keep e (ne_some o5), h.map.keep e (ne_some o6), ht, h.ntb, h.nmb, h.nbm, h.bx, h.bt, h.bmb, h.bbm⟩
/-- The pager is written. -/
theorem TxV.setPg {w w' : World} {base n : Nat} {k k' : Bk} {y : Bx} {g g' : Pg} {T : Tr} (h : TxV w base k y n g T) {F : Nat → Prop} (e : D5.Kp F w w') (hF : ∀ i, F i → footG k i) (hp : PgV w' base k' g') (e1 : k'.p = k.p) (e2 : k'.tb = k.tb) (e3 : k'.mb = k.mb) (e4 : k'.bm = k.bm) : TxV w' base k' y n g' T := by
  obtain ⟨f1, f2, f3, f4⟩ := h.far
  refine ⟨hp, ?_, kp_pt e h.tab (fun hf => f2 (hF _ hf)), kp_pm e h.map (fun hf => f3 (hF _ hf)), h.txt.kp e (fun hf => f4 (hF _ hf)), by rw [e2]; exact h.ntb, by rw [e3]; exact h.nmb, by rw [e4]; exact h.nbm, h.bx, h.bt, h.bmb, h.bbm⟩
  rw [e1]; exact e.blk h.blk (fun hf => f1 (hF _ hf))
/-- A pager's cells, one by one. -/
theorem PgV.cells {w : World} {base : Nat} {k : Bk} {g : Pg} (h : PgV w base k g) : w.cell? ⟨k.p, 0, none⟩ = some (.pointer (some ⟨k.dp, 0, none⟩)) ∧ w.cell? ⟨k.p, 1, none⟩ = some (.int .u64 (g.r.e : Nat)) ∧ w.cell? ⟨k.p, 11, none⟩ = some (.int .i64 g.wh) ∧ w.cell? ⟨k.p, 12, none⟩ = some (.pointer (some ⟨k.tb, 0, none⟩)) ∧ w.cell? ⟨k.p, 13, none⟩ = some (.pointer (some ⟨k.mb, 0, none⟩)) ∧ w.cell? ⟨k.p, 14, none⟩ = some (.bool g.dead) ∧ w.cell? ⟨k.p, 15, none⟩ = some (.bool g.busy) := by
  obtain ⟨a, b, c, d, e, f, i, j, hl⟩ := eight h.len
  have hb := h.blk
  unfold pgL R8.rootC at hb
  rw [hl] at hb
  exact ⟨hb.cell 0 rfl, hb.cell 1 rfl, hb.cell 11 rfl, hb.cell 12 rfl, hb.cell 13 rfl, hb.cell 14 rfl, hb.cell 15 rfl⟩
theorem PgV.free {w : World} {base : Nat} {k : Bk} {g : Pg} (h : PgV w base k g) (o : Nat) : w.frozen? ⟨k.p, o, none⟩ = false := h.blk.free o
theorem TxV.cells {w : World} {base n : Nat} {k : Bk} {y : Bx} {g : Pg} {T : Tr} (h : TxV w base k y n g T) : w.cell? ⟨y.x, 0, none⟩ = some (.pointer (some ⟨k.p, 0, none⟩)) ∧ w.cell? ⟨y.x, 1, none⟩ = some (.pointer (some ⟨y.tb, 0, none⟩)) ∧ w.cell? ⟨y.x, 2, none⟩ = some (.pointer (some ⟨y.mb, 0, none⟩)) ∧ w.cell? ⟨y.x, 3, none⟩ = some (.map (some y.bm)) ∧ w.cell? ⟨y.x, 4, none⟩ = some (.bool false) :=
  ⟨h.blk.cell 0 rfl, h.blk.cell 1 rfl, h.blk.cell 2 rfl, h.blk.cell 3 rfl, h.blk.cell 4 rfl⟩
theorem pgL_busy (dp tb mb : Nat) (r : R8.Rt) (wh : Int) (dead busy b : Bool) (hl : r.cs.length = 8) : (pgL dp tb mb r wh dead busy).toArray.setIfInBounds 15 (.bool b) = (pgL dp tb mb r wh dead b).toArray := by
  obtain ⟨a, b, c, d, e, f, i, j, hl⟩ := eight hl
  unfold pgL R8.rootC
  rw [hl]; rfl
theorem pgL_dead (dp tb mb : Nat) (r : R8.Rt) (wh : Int) (dead busy b : Bool) (hl : r.cs.length = 8) : (pgL dp tb mb r wh dead busy).toArray.setIfInBounds 14 (.bool b) = (pgL dp tb mb r wh b busy).toArray := by
  obtain ⟨a, b, c, d, e, f, i, j, hl⟩ := eight hl
  unfold pgL R8.rootC
  rw [hl]; rfl
/-- A flag of the pager is written. -/
theorem PgV.setBusy {w : World} {base : Nat} {k : Bk} {g : Pg} (h : PgV w base k g) (b : Bool) : PgV (w.setCell ⟨k.p, 15, none⟩ (.bool b)) base k { g with busy := b } := by
  have e := kp_one (gb_set w k.p 15 none (.bool b))
  obtain ⟨n1, n2, n3⟩ := h.ne_p
  refine ⟨?_, pdv_frame h.disk e (fun i hi e2 => n1 (e2 ▸ hi)), kp_pt e h.tab (fun e2 => n2 e2.symm), kp_pm e h.map (fun e2 => n3 e2.symm), h.len, h.bp, h.bt, h.bmb⟩
  have := h.blk.set 15 (.bool b)
  rwa [pgL_busy _ _ _ _ _ _ _ _ h.len] at this
theorem PgV.setDead {w : World} {base : Nat} {k : Bk} {g : Pg} (h : PgV w base k g) (b : Bool) : PgV (w.setCell ⟨k.p, 14, none⟩ (.bool b)) base k { g with dead := b } := by
  have e := kp_one (gb_set w k.p 14 none (.bool b))
  obtain ⟨n1, n2, n3⟩ := h.ne_p
  refine ⟨?_, pdv_frame h.disk e (fun i hi e2 => n1 (e2 ▸ hi)), kp_pt e h.tab (fun e2 => n2 e2.symm), kp_pm e h.map (fun e2 => n3 e2.symm), h.len, h.bp, h.bt, h.bmb⟩
  have := h.blk.set 14 (.bool b)
  rwa [pgL_dead _ _ _ _ _ _ _ _ h.len] at this
theorem pdv_lt {w : World} {base p : Nat} {vs vp : Value} {bm : Nat} {D : DataW Unit} {s : D5.St} (h : D5.PDv w base p vs vp bm D s) : ∀ i, D5.footP p vs vp bm i → i < w.heap.size := by
  rintro i (rfl | rfl | e | e)
  · exact h.1.lt
  · exact h.2.2.2.1.lt
  · exact (h.2.1.lt i e).2
  · exact (h.2.2.1.lt i e).2
theorem PgV.lt {w : World} {base : Nat} {k : Bk} {g : Pg} (h : PgV w base k g) : ∀ i, footG k i → i < w.heap.size := by
  rintro i (rfl | e | rfl | rfl)
  · exact h.blk.lt
  · exact pdv_lt h.disk i e
  · exact h.tab.lt
  · exact h.map.lt
theorem TxV.lt {w : World} {base n : Nat} {k : Bk} {y : Bx} {g : Pg} {T : Tr} (h : TxV w base k y n g T) : ∀ i, footX k y i → i < w.heap.size := by
  rintro i (e | rfl | rfl | rfl | rfl)
  · exact h.pg.lt i e
  · exact h.blk.lt
  · exact h.tab.lt
  · exact h.map.lt
  · exact h.txt.lt
/-- A step that writes a block that is new since w. -/
theorem TxV.past {w0 w w' : World} {base n : Nat} {k : Bk} {y : Bx} {g : Pg} {T : Tr} (h : TxV w base k y n g T) {b : Nat} (e : w.grownBy w' (some b)) (hlt : ∀ i, footX k y i → i < w0.heap.size) (hb : w0.heap.size ≤ b) : TxV w' base k y n g T :=
  h.frame (kp_one e) (fun i hi e2 => by have := hlt i hi; omega)
theorem PgV.past {w0 w w' : World} {base : Nat} {k : Bk} {g : Pg} (h : PgV w base k g) {b : Nat} (e : w.grownBy w' (some b)) (hlt : ∀ i, footG k i → i < w0.heap.size) (hb : w0.heap.size ≤ b) : PgV w' base k g :=
  h.frame (kp_one e) (fun i hi e2 => by have := hlt i hi; omega)
/-- With the blocks hidden: F holds all of them. -/
def PW (w : World) (base : Nat) (F : Nat → Prop) (p : Nat) (g : Pg) : Prop := ∃ k, k.p = p ∧ PgV w base k g ∧ ∀ i, footG k i → F i
def TW (w : World) (base : Nat) (F : Nat → Prop) (p x n : Nat) (g : Pg) (T : Tr) : Prop := ∃ k y, k.p = p ∧ y.x = x ∧ TxV w base k y n g T ∧ ∀ i, footX k y i → F i
theorem PW.frame {w w' : World} {base p : Nat} {F G : Nat → Prop} {g : Pg} (h : PW w base F p g) (e : D5.Kp G w w') (hd : ∀ i, F i → ¬ G i) : PW w' base F p g := by
  obtain ⟨k, h1, h2, h3⟩ := h
  exact ⟨k, h1, h2.frame e (fun i hi => hd i (h3 i hi)), h3⟩
theorem TW.frame {w w' : World} {base p x n : Nat} {F G : Nat → Prop} {g : Pg} {T : Tr} (h : TW w base F p x n g T) (e : D5.Kp G w w') (hd : ∀ i, F i → ¬ G i) : TW w' base F p x n g T := by
  obtain ⟨k, y, h1, h2, h3, h4⟩ := h
  exact ⟨k, y, h1, h2, h3.frame e (fun i hi => hd i (h4 i hi)), h4⟩
theorem PW.mono {w : World} {base p : Nat} {F G : Nat → Prop} {g : Pg} (h : PW w base F p g) (hd : ∀ i, F i → G i) : PW w base G p g := by
  obtain ⟨k, h1, h2, h3⟩ := h
  exact ⟨k, h1, h2, fun i hi => hd i (h3 i hi)⟩
theorem TW.mono {w : World} {base p x n : Nat} {F G : Nat → Prop} {g : Pg} {T : Tr} (h : TW w base F p x n g T) (hd : ∀ i, F i → G i) : TW w base G p x n g T := by
  obtain ⟨k, y, h1, h2, h3, h4⟩ := h
  exact ⟨k, y, h1, h2, h3, fun i hi => hd i (h4 i hi)⟩
theorem PW.keep0 {w w' : World} {base p : Nat} {F : Nat → Prop} {g : Pg} (h : PW w base F p g) (e : w.grownBy w' none) : PW w' base F p g := h.frame (G := fun _ => False) (D5.Kp.of0 e) (fun _ _ h => h)
theorem TW.keep0 {w w' : World} {base p x n : Nat} {F : Nat → Prop} {g : Pg} {T : Tr} (h : TW w base F p x n g T) (e : w.grownBy w' none) : TW w' base F p x n g T := h.frame (G := fun _ => False) (D5.Kp.of0 e) (fun _ _ h => h)
end Go.Proofs.YtliiooldlooagaaGreatDoor.J10

/-
  The pager's and the transaction's small methods (isNone, Left, Epoch, Dead, refuses, lacks, seal, copied), over this seat's translation; conditions: they lie as Jf tells, or are none.
-/
namespace Go.Proofs.YtliiooldlooagaaGreatDoor.J10
open Go.RowKit Go.Maps
/-- The world at hand gets a letter. -/
theorem wp_letter {P : Program} {c : Code} {Q : Exit → Act → World → Prop} {a : Act} {w : World} (R : World → Prop) (hR : R w) (h : ∀ u, R u → c.wp P Q a u) : c.wp P Q a w := h w hR
theorem wpl_letter {P : Program} {ops : Array Oper} {l : List Oper} {Q : Exit → Act → World → Prop} {a : Act} {w : World} (R : World → Prop) (hR : R w) (h : ∀ u, R u → wpList P ops Q l a u) : wpList P ops Q l a w := h w hR
/-- A result that lies in a variable. -/
theorem results_cell {fn : Func} {p : Tmp} {t : TypeId} (h : fn.results = #[.cell p t]) (tmps : Array Value) (w : World) (b : Nat) (v : Value)
    (hp : tmps.getD p undef = .pointer (some ⟨b, 0, none⟩)) (hb : (loadVar t ⟨b, 0, none⟩).run Tryz.prog w = .ok v w) : (results fn tmps).run Tryz.prog w = .ok v w := by
  have hp' : tmps[p]?.getD undef = .pointer (some ⟨b, 0, none⟩) := by simpa using hp
  simp [results, h, hp', asAddr, hb]
theorem gb_setRow' (w : World) (g : Nat) (cs : Array Value) : w.grownBy (w.setRow g cs) (some g) := T9.gb_setRow w g cs
theorem pl_info2 : (Tryz.prog.info? 71).map (·.size) = some 2 := by kernel_rfl
theorem pl_info (u v : Value) : (Tryz.prog.info? 71).map (·.size) = some (#[u, v] : Array Value).size := by rw [pl_info2]; rfl
theorem pl_size (u v u' v' : Value) : (#[u, v] : Array Value).size = (#[u', v'] : Array Value).size := rfl
theorem pl_one (a b : Option Addr) : (#[.pointer a, .pointer b] : Array Value).all (·.oneCell') = true := by simp [Value.oneCell']
theorem blk_setRow {w : World} {b : Nat} {t : TypeId} {cs : Array Value} (h : Blk w b t cs) (cs' : Array Value) : Blk (w.setRow b cs') b t cs' := by
  unfold Blk at h ⊢
  simp [World.setRow, Array.getElem?_modify, h]
/-- Two addresses, out of memory. -/
theorem load_places {w : World} {b : Nat} {u v : Value} {t : TypeId} (h : Blk w b t #[u, v]) (h1 : u.cells = #[u]) (h2 : v.cells = #[v]) : (loadVar 71 ⟨b, 0, none⟩).run Tryz.prog w = .ok (.agg #[u, v]) w := by
  have := run_loadVar_row w b t 71 #[u, v] (0, 0) _ h Tryz.underlying71 rfl (by kernel_rfl)
  exact this
theorem isNone_any {w : World} {base : Nat} {k : Bk} {g : Pg} (h : PgV w base k g) : Calls Tryz.prog 34 #[.pointer (some ⟨k.p, 0, none⟩)] w fun e w' => e = .returned (.bool false) ∧ w = w' := by
  obtain ⟨c0, _⟩ := h.cells
  clear h
  go_enter Tryz.func34, Tryz.ntmps34
  go_wp2
  go_ret
  exact ⟨rfl, rfl⟩
theorem isNone_nil (w : World) : Calls Tryz.prog 34 #[.pointer none] w fun e w' => e = .returned (.bool true) ∧ w = w' := by
  go_enter Tryz.func34, Tryz.ntmps34
  go_wp2
  go_ret
  exact ⟨rfl, rfl⟩
theorem left_any {w : World} {base : Nat} {k : Bk} {g : Pg} (h : PgV w base k g) (hn : g.m.length ≤ 1024) : Calls Tryz.prog 16 #[.pointer (some ⟨k.p, 0, none⟩)] w fun e w' => e = .returned (.int .i64 (M6.leftF g.m : Nat)) ∧ w = w' := by
  obtain ⟨c0, _, _, _, c13, _⟩ := h.cells
  have H := Lib.hid h
  clear h
  go_enter Tryz.func16, Tryz.ntmps16
  go_wp2_with (first
    | (go_at_call 34; (with_reducible refine (isNone_any H.out).mono ?_); rintro e w' ⟨rfl, rfl⟩)
    | (go_at_call 40; (with_reducible refine (M6.left_any _ _ _ H.out.map hn).mono ?_); rintro e w' ⟨rfl, rfl⟩))
  go_ret
  exact ⟨rfl, rfl⟩
theorem left_none (w : World) : Calls Tryz.prog 16 #[.pointer none] w fun e w' => e = .returned (.int .i64 0) ∧ w = w' := by
  go_enter Tryz.func16, Tryz.ntmps16
  go_wp2_with (go_at_call 34; (with_reducible refine (isNone_nil _).mono ?_); rintro e w' ⟨rfl, rfl⟩)
  go_ret
  exact ⟨rfl, rfl⟩
/-- A transaction that is over. -/
def OverB (w : World) (x : Nat) : Prop := Blk w x 74 #[.pointer none, .pointer none, .pointer none, .map none, .bool true]
theorem refuses_ok {w : World} {base n : Nat} {k : Bk} {y : Bx} {g : Pg} {T : Tr} (h : TxV w base k y n g T) (hd : g.dead = false) : Calls Tryz.prog 29 #[.pointer (some ⟨y.x, 0, none⟩)] w fun e w' => e = .returned (.int .i64 0) ∧ w = w' := by
  obtain ⟨c0, c1, c2, c3, c4⟩ := h.cells
  obtain ⟨_, _, _, _, _, c14, _⟩ := h.pg.cells
  rw [hd] at c14
  clear h hd
  go_enter Tryz.func29, Tryz.ntmps29
  go_wp2
  go_ret
  exact ⟨rfl, rfl⟩
theorem refuses_over {w : World} {x : Nat} (h : OverB w x) : Calls Tryz.prog 29 #[.pointer (some ⟨x, 0, none⟩)] w fun e w' => e = .returned (.int .i64 22) ∧ w = w' := by
  have c4 := h.cell 4 rfl
  clear h
  go_enter Tryz.func29, Tryz.ntmps29
  go_wp2
  go_ret
  exact ⟨rfl, rfl⟩
theorem refuses_nil (w : World) : Calls Tryz.prog 29 #[.pointer none] w fun e w' => e = .returned (.int .i64 1) ∧ w = w' := by
  go_enter Tryz.func29, Tryz.ntmps29
  go_wp2
  go_ret
  exact ⟨rfl, rfl⟩
theorem lacks_yes {w : World} {base n : Nat} {k : Bk} {y : Bx} {g : Pg} {T : Tr} (h : TxV w base k y n g T) (hd : g.dead = false) (p : Int) (h0 : T9.getF T.t p = 0) : Calls Tryz.prog 44 #[.pointer (some ⟨y.x, 0, none⟩), .int .i64 p] w fun e w' => e = .returned (.int .i64 13) ∧ w = w' := by
  obtain ⟨c0, c1, c2, c3, c4⟩ := h.cells
  have H := Lib.hid h
  have HG := Lib.hid (T9.get_any _ _ p w h.tab)
  rw [h0] at HG
  clear h h0
  go_enter Tryz.func44, Tryz.ntmps44
  go_wp2_with (first
    | (go_at_call 29; (with_reducible refine (refuses_ok H.out hd).mono ?_); rintro e w' ⟨rfl, rfl⟩)
    | (go_at_call 55; (with_reducible refine HG.out.mono ?_); rintro e w' ⟨rfl, rfl⟩))
  go_ret
  exact ⟨rfl, rfl⟩
theorem lacks_no {w : World} {base n : Nat} {k : Bk} {y : Bx} {g : Pg} {T : Tr} (h : TxV w base k y n g T) (hd : g.dead = false) (p : Int) (h0 : T9.getF T.t p ≠ 0) : Calls Tryz.prog 44 #[.pointer (some ⟨y.x, 0, none⟩), .int .i64 p] w fun e w' => e = .returned (.int .i64 0) ∧ w = w' := by
  obtain ⟨c0, c1, c2, c3, c4⟩ := h.cells
  have H := Lib.hid h
  have HG := Lib.hid (T9.get_any _ _ p w h.tab)
  obtain ⟨z, hz⟩ : ∃ z, T9.getF T.t p = z := ⟨_, rfl⟩
  rw [hz] at HG h0
  have hne : ((z : Int) == 0) = false := by simp [h0]
  clear h h0 hz
  go_enter Tryz.func44, Tryz.ntmps44
  go_wp2_with (first
    | (go_at_call 29; (with_reducible refine (refuses_ok H.out hd).mono ?_); rintro e w' ⟨rfl, rfl⟩)
    | (go_at_call 55; (with_reducible refine HG.out.mono ?_); rintro e w' ⟨rfl, rfl⟩))
  go_ret
  exact ⟨rfl, rfl⟩
theorem lacks_nil (p : Int) (w : World) : Calls Tryz.prog 44 #[.pointer none, .int .i64 p] w fun e w' => e = .returned (.int .i64 1) ∧ w = w' := by
  go_enter Tryz.func44, Tryz.ntmps44
  go_wp2_with (go_at_call 29; (with_reducible refine (refuses_nil _).mono ?_); rintro e w' ⟨rfl, rfl⟩)
  go_ret
  exact ⟨rfl, rfl⟩
/-- What a page's text is, and what is wrong with a kind and a body. -/
def sealC (k : Int) (b : ByteArray) : Nat := if k = 255 then 6 else C7.sealE k b.data.toList
def sealT (k : Int) (b : ByteArray) : ByteArray := if sealC k b = 0 then sealB k.toNat b else noE
def SealGot (w : World) (k : Int) (b : ByteArray) (e : Ending) (w' : World) : Prop := e = .returned (.tuple #[.string (sealT k b), .int .i64 (sealC k b : Nat)]) ∧ w.grownBy w' none
theorem seal_any (k : Int) (b : ByteArray) (w : World) : Calls Tryz.prog 45 #[.int .i64 k, .string b] w (SealGot w k b) := by
  unfold SealGot
  by_cases hk : k = 255
  · have h1 : sealC k b = 6 := if_pos hk
    have h2 : sealT k b = noE := if_neg (by rw [h1]; decide)
    rw [h1, h2, hk]
    clear h1 h2 hk
    go_enter Tryz.func45, Tryz.ntmps45
    go_wp2
    go_ret2
    exact ⟨rfl, gb_refl _ _⟩
  · have h1 : sealC k b = C7.sealE k b.data.toList := if_neg hk
    have h2 : sealT k b = ⟨(C7.sealS k b.data.toList).toArray⟩ := by
      unfold sealT C7.sealS
      rw [h1]
      split
      · rfl
      · rfl
    rw [h1, h2]
    have HS := Lib.hid (C7.seal_any k b w)
    unfold C7.Sealed at HS
    have hne : (k == 255) = false := by simp [hk]
    clear h1 h2 hk
    go_enter Tryz.func45, Tryz.ntmps45
    go_wp2_with (go_at_call 78; (with_reducible refine HS.out.mono ?_); rintro e w' ⟨rfl, g1⟩)
    go_ret2
    exact ⟨rfl, g1⟩
theorem sealC_ok {k : Int} {b : ByteArray} (h1 : 1 ≤ k) (h2 : k ≤ 254) (h3 : b.size ≤ 240) : sealC k b = 0 := by
  unfold sealC C7.sealE
  rw [if_neg (by omega), if_neg (by omega), if_neg (by rw [Array.length_toList]; exact Nat.not_lt.2 h3)]
theorem sealT_ok {k : Nat} {b : ByteArray} (h1 : 1 ≤ k) (h2 : k ≤ 254) (h3 : b.size ≤ 240) : sealT (k : Int) b = sealB k b := by
  unfold sealT
  rw [if_pos (sealC_ok (by omega) (by omega) h3), Int.toNat_natCast]
/-- Places of one's own. -/
def CopGot (w : World) (t : T9.TB) (m : List Bool) (e : Ending) (w' : World) : Prop := ∃ a b, e = .returned (.agg #[.pointer (some ⟨a, 0, none⟩), .pointer (some ⟨b, 0, none⟩)]) ∧ w.heap.size ≤ a ∧ w.heap.size ≤ b ∧ T9.PT w' a t ∧ M6.PM w' b m ∧ w.grownBy w' none
set_option maxHeartbeats 2000000 in
theorem copied_any {w : World} {a b : Nat} {t : T9.TB} {m : List Bool} (ha : T9.PT w a t) (hb : M6.PM w b m) : Calls Tryz.prog 35 #[.agg #[.pointer (some ⟨a, 0, none⟩), .pointer (some ⟨b, 0, none⟩)]] w (CopGot w t m) := by
  unfold CopGot
  have HA := Lib.hid ha
  have HB := Lib.hid hb
  clear ha hb
  go_enter Tryz.func35, Tryz.ntmps35
  go_wp2
  refine wp_letter (fun u => Blk u w.heap.size 71 #[.pointer (some ⟨a, 0, none⟩), .pointer (some ⟨b, 0, none⟩)] ∧ Blk u (w.heap.size + 1) 71 #[.pointer none, .pointer none] ∧ T9.PT u a t ∧ M6.PM u b m ∧ w.grownBy u none ∧ u.heap.size = w.heap.size + 2) ?_ ?_
  · have g1 := gb_alloc w (.cells #[.pointer (some ⟨a, 0, none⟩), .pointer (some ⟨b, 0, none⟩)] 71) none
    have g2 := gb_alloc (w.alloc (.cells #[.pointer (some ⟨a, 0, none⟩), .pointer (some ⟨b, 0, none⟩)] 71)) (.cells #[.pointer none, .pointer none] 71) none
    refine ⟨(Blk.mk w _ _).keep0 g2, ?_, (HA.out.keep0 g1).keep0 g2, (HB.out.keep0 g1).keep0 g2, gb_trans g1 g2, by simp⟩
    have := Blk.mk (w.alloc (.cells #[.pointer (some ⟨a, 0, none⟩), .pointer (some ⟨b, 0, none⟩)] 71)) 71 #[.pointer none, .pointer none]
    rwa [World.size_alloc] at this
  rintro u ⟨b0, b1, ha, hb, g0, hsz⟩
  have gd := gb_drew u none
  refine wp_region_noPanic ?_
  refine wp_region_held_drew (S := fun w' => w.grownBy w' none ∧ Blk w' w.heap.size 71 #[.pointer (some ⟨a, 0, none⟩), .pointer (some ⟨b, 0, none⟩)]) (by kernel_rfl) ⟨gb_trans g0 (gb_drew _ _), b0.keep0 (gb_drew _ _)⟩ (fun hHeld => ?_)
  refine wpAnyH_take (i := 0) (v := ?_) (List.getElem?_toArray.trans rfl) (by kernel_rfl) (by kernel_rfl) (by kernel_rfl) (fun _ _ _ h => h) (Or.inl ⟨by rfl, ?_⟩) hHeld ?_
  rotate_left
  · intro w' hSw; have c0 : w'.cell? ⟨w.heap.size, 0, none⟩ = some (.pointer (some ⟨a, 0, none⟩)) := hSw.2.cell 0 rfl; have c1 : w'.cell? ⟨w.heap.size, 1, none⟩ = some (.pointer (some ⟨b, 0, none⟩)) := hSw.2.cell 1 rfl; clear hSw; go_simp; try with_reducible rfl
  try simp only [Act.put, List.setIfInBounds_toArray, List.set_cons_zero, List.set_cons_succ]
  refine wpAnyH_take (i := 1) (v := ?_) (List.getElem?_toArray.trans rfl) (by kernel_rfl) (by kernel_rfl) (by kernel_rfl) (fun _ _ _ h => h) (Or.inl ⟨by rfl, ?_⟩) hHeld ?_
  rotate_left
  · intro w' hSw; have c0 : w'.cell? ⟨w.heap.size, 0, none⟩ = some (.pointer (some ⟨a, 0, none⟩)) := hSw.2.cell 0 rfl; have c1 : w'.cell? ⟨w.heap.size, 1, none⟩ = some (.pointer (some ⟨b, 0, none⟩)) := hSw.2.cell 1 rfl; clear hSw; go_simp; try with_reducible rfl
  try simp only [Act.put, List.setIfInBounds_toArray, List.set_cons_zero, List.set_cons_succ]
  refine wpAnyH_take (i := 3) (v := ?_) (List.getElem?_toArray.trans rfl) (by kernel_rfl) (by kernel_rfl) (by kernel_rfl) (fun _ _ _ h => h) (Or.inl ⟨by rfl, ?_⟩) hHeld ?_
  rotate_left
  · intro w' hSw; have c0 : w'.cell? ⟨w.heap.size, 0, none⟩ = some (.pointer (some ⟨a, 0, none⟩)) := hSw.2.cell 0 rfl; have c1 : w'.cell? ⟨w.heap.size, 1, none⟩ = some (.pointer (some ⟨b, 0, none⟩)) := hSw.2.cell 1 rfl; clear hSw; go_simp; try with_reducible rfl
  try simp only [Act.put, List.setIfInBounds_toArray, List.set_cons_zero, List.set_cons_succ]
  refine wpAnyH_take (i := 4) (v := ?_) (List.getElem?_toArray.trans rfl) (by kernel_rfl) (by kernel_rfl) (by kernel_rfl) (fun _ _ _ h => h) (Or.inl ⟨by rfl, ?_⟩) hHeld ?_
  rotate_left
  · intro w' hSw; have c0 : w'.cell? ⟨w.heap.size, 0, none⟩ = some (.pointer (some ⟨a, 0, none⟩)) := hSw.2.cell 0 rfl; have c1 : w'.cell? ⟨w.heap.size, 1, none⟩ = some (.pointer (some ⟨b, 0, none⟩)) := hSw.2.cell 1 rfl; clear hSw; go_simp; try with_reducible rfl
  try simp only [Act.put, List.setIfInBounds_toArray, List.set_cons_zero, List.set_cons_succ]
  refine wpAnyH_ready (rs := [2]) (by kernel_rfl) (by simp) ?_
  refine AllReadyH.cons (List.getElem?_toArray.trans rfl) (fun K hK => ?_) AllReadyH.nil
  go_simp
  go_at_call 68
  (with_reducible refine (T9.copy_any a t _ (ha.keep0 gd)).mono ?_)
  rintro e w1 ⟨rfl, p1, g1⟩
  have g2 := gb_trans gd g1
  refine hK.out _ _ (⟨gb_trans g0 g2, b0.keep0 g2⟩) (fun hHeld => ?_)
  clear hK K
  try simp only [Act.put, List.setIfInBounds_toArray, List.set_cons_zero, List.set_cons_succ]
  refine wpAnyH_ready (rs := [5]) (by kernel_rfl) (by simp) ?_
  refine AllReadyH.cons (List.getElem?_toArray.trans rfl) (fun K hK => ?_) AllReadyH.nil
  go_simp
  go_at_call 69
  (with_reducible refine (M6.copy_any b m _ (hb.keep0 g2)).mono ?_)
  rintro e w2 ⟨rfl, p2, g3⟩
  have g4 := gb_trans g2 g3
  refine hK.out _ _ (⟨gb_trans g0 g4, b0.keep0 g4⟩) (fun hHeld => ?_)
  clear hK K
  try simp only [Act.put, List.setIfInBounds_toArray, List.set_cons_zero, List.set_cons_succ]
  refine wpAnyH_take (i := 6) (v := ?_) (List.getElem?_toArray.trans rfl) (by kernel_rfl) (by kernel_rfl) (by kernel_rfl) (fun _ _ _ h => h) (Or.inl ⟨by rfl, ?_⟩) hHeld ?_
  rotate_left
  · intro w' hSw; have c0 : w'.cell? ⟨w.heap.size, 0, none⟩ = some (.pointer (some ⟨a, 0, none⟩)) := hSw.2.cell 0 rfl; have c1 : w'.cell? ⟨w.heap.size, 1, none⟩ = some (.pointer (some ⟨b, 0, none⟩)) := hSw.2.cell 1 rfl; clear hSw; go_simp; try with_reducible rfl
  try simp only [Act.put, List.setIfInBounds_toArray, List.set_cons_zero, List.set_cons_succ]
  refine wpAnyH_ready (rs := [7]) (by kernel_rfl) (by simp) ?_
  refine AllReadyH.cons (List.getElem?_toArray.trans rfl) (fun K hK => ?_) AllReadyH.nil
  have hb1 := b1.keep0 g4
  have hi1 := pl_info (.pointer (some ⟨w.heap.size + 2, 0, none⟩)) (.pointer (some ⟨w1.heap.size, 0, none⟩))
  have hz1 := pl_size (.pointer none) (.pointer none) (.pointer (some ⟨w.heap.size + 2, 0, none⟩)) (.pointer (some ⟨w1.heap.size, 0, none⟩))
  have ho1 := pl_one (some ⟨w.heap.size + 2, 0, none⟩) (some ⟨w1.heap.size, 0, none⟩)
  with_reducible refine T9.stA 71 #[.pointer none, .pointer none] #[.pointer (some ⟨w.heap.size + 2, 0, none⟩), .pointer (some ⟨w1.heap.size, 0, none⟩)] 2 9 (w.heap.size + 1) hb1 hi1 hz1 ho1 ?_ ?_ ?_
  rfl
  rfl
  refine hK.out _ _ (⟨gb_step (gb_trans g0 g4) (gb_setRow' _ _ _) (by omega), (b0.keep0 g4).keep (gb_setRow' _ _ _) (ne_some (by omega))⟩) (fun hHeld => ?_)
  clear hK K
  try simp only [Act.put, List.setIfInBounds_toArray, List.set_cons_zero, List.set_cons_succ]
  refine wpAnyH_done (by kernel_rfl) ?_ _
  refine NoPanic.normal ?_
  have p1' : T9.PT w1 (w.heap.size + 2) t := by simpa [hsz] using p1
  have hr := load_places (blk_setRow hb1 #[.pointer (some ⟨w.heap.size + 2, 0, none⟩), .pointer (some ⟨w1.heap.size, 0, none⟩)]) rfl rfl
  have gE := gb_setRow' w2 (w.heap.size + 1) #[.pointer (some ⟨w.heap.size + 2, 0, none⟩), .pointer (some ⟨w1.heap.size, 0, none⟩)]
  have z1 := g1.size
  have z0 : u.drew.heap.size = u.heap.size := rfl
  generalize w2.setRow (w.heap.size + 1) #[.pointer (some ⟨w.heap.size + 2, 0, none⟩), .pointer (some ⟨w1.heap.size, 0, none⟩)] = w3 at hr gE ⊢
  go_wp2
  refine bodyPost_ret (results_cell rfl _ _ (w.heap.size + 1) _ rfl hr) rfl ⟨_, _, rfl, by omega, by omega, (p1'.keep0 g3).keep gE (ne_some (by omega)), p2.keep gE (ne_some (by omega)), gb_step (gb_trans g0 g4) gE (by omega)⟩
end Go.Proofs.YtliiooldlooagaaGreatDoor.J10

/-
  Begin and Abort, over this seat's translation; conditions: the pager and the transaction lie as Jf tells, or are none.
-/
namespace Go.Proofs.YtliiooldlooagaaGreatDoor.J10
open Go.RowKit Go.Maps
theorem begin_nil (w : World) : Calls Tryz.prog 14 #[.pointer none] w fun e w' => e = .returned (.tuple #[.pointer none, .int .i64 1]) ∧ w = w' := by
  go_enter Tryz.func14, Tryz.ntmps14
  go_wp2_with (go_at_call 34; (with_reducible refine (isNone_nil _).mono ?_); rintro e w' ⟨rfl, rfl⟩)
  go_ret2
  exact ⟨rfl, rfl⟩
theorem begin_dead {w : World} {base : Nat} {k : Bk} {g : Pg} (h : PgV w base k g) (hd : g.dead = true) : Calls Tryz.prog 14 #[.pointer (some ⟨k.p, 0, none⟩)] w fun e w' => e = .returned (.tuple #[.pointer none, .int .i64 30]) ∧ w = w' := by
  obtain ⟨c0, _, _, _, _, c14, c15⟩ := h.cells
  rw [hd] at c14
  have H := Lib.hid h
  clear h hd
  go_enter Tryz.func14, Tryz.ntmps14
  go_wp2_with (go_at_call 34; (with_reducible refine (isNone_any H.out).mono ?_); rintro e w' ⟨rfl, rfl⟩)
  go_ret2
  exact ⟨rfl, rfl⟩
theorem begin_busy {w : World} {base : Nat} {k : Bk} {g : Pg} (h : PgV w base k g) (hd : g.dead = false) (hb : g.busy = true) : Calls Tryz.prog 14 #[.pointer (some ⟨k.p, 0, none⟩)] w fun e w' => e = .returned (.tuple #[.pointer none, .int .i64 12]) ∧ w = w' := by
  obtain ⟨c0, _, _, _, _, c14, c15⟩ := h.cells
  rw [hd] at c14
  rw [hb] at c15
  have H := Lib.hid h
  clear h hd hb
  go_enter Tryz.func14, Tryz.ntmps14
  go_wp2_with (go_at_call 34; (with_reducible refine (isNone_any H.out).mono ?_); rintro e w' ⟨rfl, rfl⟩)
  go_ret2
  exact ⟨rfl, rfl⟩
def BeginGot (w : World) (base : Nat) (k : Bk) (g : Pg) (e : Ending) (w' : World) : Prop :=
  ∃ y, e = .returned (.tuple #[.pointer (some ⟨y.x, 0, none⟩), .int .i64 0]) ∧ TxV w' base k y 0 { g with busy := true } ⟨g.t, g.m, fun _ => none⟩ ∧ D5.Kp (fun i => i = k.p) w w' ∧ w.heap.size ≤ y.x ∧ w.heap.size ≤ y.tb ∧ w.heap.size ≤ y.mb ∧ w.heap.size ≤ y.bm
set_option maxHeartbeats 1000000 in
theorem begin_any {w : World} {base : Nat} {k : Bk} {g : Pg} (h : PgV w base k g) (hd : g.dead = false) (hb : g.busy = false) (hbase : base ≤ w.heap.size) : Calls Tryz.prog 14 #[.pointer (some ⟨k.p, 0, none⟩)] w (BeginGot w base k g) := by
  unfold BeginGot
  have h1 := h.setBusy true
  have f15 := h.free 15
  obtain ⟨c0, _, _, c12, c13, c14, c15⟩ := h.cells
  obtain ⟨_, _, _, d12, d13, _, _⟩ := h1.cells
  rw [hd] at c14
  rw [hb] at c15
  have H := Lib.hid h
  have H1 := Lib.hid h1
  have hmm := @run_makeMap Tryz.prog
  clear h h1 hd hb
  go_enter Tryz.func14, Tryz.ntmps14
  go_wp2_with (first
    | (go_at_call 34; (with_reducible refine (isNone_any H.out).mono ?_); rintro e w' ⟨rfl, rfl⟩)
    | (go_at_call 35; (with_reducible refine (copied_any H1.out.tab H1.out.map).mono ?_); rintro e w1 ⟨a, b, rfl, ha, hb, p1, p2, g1⟩))
  go_ret2
  have s1 := g1.size
  rw [World.size_setCell] at ha hb s1
  have gm := gb_alloc w1 (.map #[] 0) none
  have gx := gb_alloc (w1.alloc (.map #[] 0)) (.cells #[.pointer (some ⟨k.p, 0, none⟩), .pointer (some ⟨a, 0, none⟩), .pointer (some ⟨b, 0, none⟩), .map (some w1.heap.size), .bool false] 74) none
  have gg := gb_trans gm gx
  have hp := (H1.out.keep0 g1).keep0 gg
  have lt1 := H1.out.tab.lt
  have lt2 := H1.out.map.lt
  rw [World.size_setCell] at lt1 lt2
  have lt3 : k.bm < w.heap.size := (H.out.disk.2.2.2.1).lt
  have hx := Blk.mk (w1.alloc (.map #[] 0)) 74 #[.pointer (some ⟨k.p, 0, none⟩), .pointer (some ⟨a, 0, none⟩), .pointer (some ⟨b, 0, none⟩), .map (some w1.heap.size), .bool false]
  rw [World.size_alloc] at hx
  refine ⟨⟨w1.heap.size + 1, a, b, w1.heap.size⟩, rfl, ⟨hp, hx, (p1.keep0 gg), (p2.keep0 gg), (Mp.made w1).keep0 gx, ?_, ?_, ?_, ?_, ?_, ?_, ?_⟩, ?_, ?_, ?_, ?_, ?_⟩
  · show a ≠ k.tb; have : k.tb < w.heap.size := lt1; omega
  · show b ≠ k.mb; have : k.mb < w.heap.size := lt2; omega
  · show w1.heap.size ≠ k.bm; omega
  · show base ≤ w1.heap.size + 1; omega
  · show base ≤ a; omega
  · show base ≤ b; omega
  · show base ≤ w1.heap.size; omega
  · exact (D5.Kp.of (gb_set w k.p 15 none (.bool true)) (fun j e => by cases e; rfl)).trans (D5.Kp.of0 (gb_trans g1 gg))
  · show w.heap.size ≤ w1.heap.size + 1; omega
  · exact ha
  · exact hb
  · show w.heap.size ≤ w1.heap.size; omega
theorem abort_nil (w : World) : Calls Tryz.prog 20 #[.pointer none] w fun e w' => e = .returned (.tuple #[]) ∧ w = w' := by
  go_enter Tryz.func20, Tryz.ntmps20
  go_wp2
  first | go_end0 | refine bodyPost_ret (results_none rfl _ _ _) rfl ?_
  exact ⟨rfl, rfl⟩
theorem abort_over {w : World} {x : Nat} (h : OverB w x) : Calls Tryz.prog 20 #[.pointer (some ⟨x, 0, none⟩)] w fun e w' => e = .returned (.tuple #[]) ∧ w = w' := by
  have c0 : w.cell? ⟨x, 0, none⟩ = some (.pointer none) := h.cell 0 rfl
  clear h
  go_enter Tryz.func20, Tryz.ntmps20
  go_wp2
  first | go_end0 | refine bodyPost_ret (results_none rfl _ _ _) rfl ?_
  exact ⟨rfl, rfl⟩
/-- What is left of a transaction that was let go. -/
def AbortGot (w : World) (base : Nat) (k : Bk) (x : Nat) (g : Pg) (e : Ending) (w' : World) : Prop :=
  e = .returned (.tuple #[]) ∧ PgV w' base k { g with busy := false } ∧ OverB w' x ∧ D5.Kp (fun i => i = k.p ∨ i = x) w w'
set_option maxHeartbeats 1000000 in
theorem abort_any {w : World} {base n : Nat} {k : Bk} {y : Bx} {g : Pg} {T : Tr} (h : TxV w base k y n g T) : Calls Tryz.prog 20 #[.pointer (some ⟨y.x, 0, none⟩)] w (AbortGot w base k y.x g) := by
  unfold AbortGot
  have h1 := h.pg.setBusy false
  have f15 := h.pg.free 15
  have x0 := h.blk.free 0
  have x1 := h.blk.free 1
  have x2 := h.blk.free 2
  have x3 := h.blk.free 3
  have x4 := h.blk.free 4
  obtain ⟨c0, c1, c2, c3, c4⟩ := h.cells
  obtain ⟨_, _, _, _, _, c14, c15⟩ := h.pg.cells
  have hxp : y.x ≠ k.p := fun e => h.far.1 (.inl e)
  have H := Lib.hid h
  have H1 := Lib.hid h1
  clear h h1
  go_enter Tryz.func20, Tryz.ntmps20
  go_wp2
  first | go_end0 | refine bodyPost_ret (results_none rfl _ _ _) rfl ?_
  have g15 := gb_set w k.p 15 none (.bool false)
  have hb := (H.out.blk.keep g15 (ne_some hxp))
  have gs := gb_trans (gb_trans (gb_trans (gb_trans (gb_set (w.setCell ⟨k.p, 15, none⟩ (.bool false)) y.x 0 none (.pointer none)) (gb_set _ y.x 1 none (.pointer none))) (gb_set _ y.x 2 none (.pointer none))) (gb_set _ y.x 3 none (.map none))) (gb_set _ y.x 4 none (.bool true))
  refine ⟨rfl, H1.out.frame (kp_one gs) (fun i hi e => H.out.far.1 (e ▸ hi)), ((((hb.set 0 _).set 1 _).set 2 _).set 3 _).set 4 _, ?_⟩
  exact ((kp_one g15).mono (fun _ e => .inl e)).trans ((kp_one gs).mono (fun _ e => .inr e))
end Go.Proofs.YtliiooldlooagaaGreatDoor.J10

/-
  What put answers and leaves, over this seat's translation; conditions: the transaction lies as Jf tells.
-/
namespace Go.Proofs.YtliiooldlooagaaGreatDoor.J10
open Go.RowKit Go.Maps
/-- The transaction's own blocks. -/
def footT (y : Bx) (i : Nat) : Prop := i = y.tb ∨ i = y.mb ∨ i = y.bm
def PutG (w : World) (base : Nat) (k : Bk) (y : Bx) (n : Nat) (g : Pg) (T' : Tr) (c : Int) (e : Ending) (w' : World) : Prop :=
  e = .returned (.int .i64 c) ∧ TxV w' base k y n g T' ∧ D5.Kp (footT y) w w'
theorem in64_page {j : Nat} (h : j < 960) : In64 ((j : Int) + 1) := ⟨by omega, by omega⟩
theorem box_two (w : World) (u v : Value) (a b : Value) : Blk (((w.alloc (.cells #[a, b] 105)).setCell ⟨w.heap.size, 0, none⟩ u).setCell ⟨w.heap.size, 1, none⟩ v) w.heap.size 105 #[u, v] := ((Blk.mk w 105 #[a, b]).set 0 u).set 1 v
set_option maxHeartbeats 2000000 in
theorem put_old {w : World} {base n : Nat} {k : Bk} {y : Bx} {g : Pg} {T : Tr} (h : TxV w base k y n g T) (hn : n < 1000000) {p : Int} (hp : In64 p) {s : Nat} {d0 : ByteArray} (hX : T.X p = some (s, d0)) (d : ByteArray) :
    Calls Tryz.prog 46 #[.pointer (some ⟨y.x, 0, none⟩), .int .i64 p, .string d] w (PutG w base k y (n + 1) g { T with X := upd T.X p (s, d) } 0) := by
  unfold PutG
  obtain ⟨c0, c1, c2, c3, c4⟩ := h.cells
  have hlt := h.blk.lt
  have hrun : (Instr.lookup 72 (.map (some y.bm)) (.int .i64 p) true).run Tryz.prog w = .ok (.tuple #[.agg #[.int .i64 (s : Nat), .string d0], .bool true]) w := h.txt.lookYes pairW hp hX
  have H := Lib.hid h
  clear h hX
  go_enter Tryz.func46, Tryz.ntmps46
  go_wp2
  refine wp_letter (fun u => Blk u w.heap.size 105 #[.int .i64 (s : Nat), .string d] ∧ TxV u base k y n g T ∧ y.x < w.heap.size ∧ D5.Kp (footT y) w u) ⟨Blk.mk _ _ _, H.out.keep0 (gb_alloc _ _ _), hlt, D5.Kp.of0 (gb_alloc _ _ _)⟩ ?_
  rintro u ⟨b0, HU, hu, g0⟩
  have hb := HU.blk
  obtain ⟨w', hput, hM, gM⟩ := (HU.txt.keep0 (gb_drew u none)).put pairW hn hp (s, d)
  have hput' : (Instr.mapUpdate 72 (.map (some y.bm)) (.int .i64 p) (.agg #[.int .i64 (s : Nat), .string d])).run Tryz.prog u.drew = .ok () w' := hput
  refine wp_region_noPanic ?_
  refine wp_region_held_drew (S := fun w' => Blk w' y.x 74 (txC k.p y) ∧ Blk w' w.heap.size 105 #[.int .i64 (s : Nat), .string d]) (by kernel_rfl) ⟨hb.keep0 (gb_drew _ _), b0.keep0 (gb_drew _ _)⟩ (fun hHeld => ?_)
  refine wpAnyH_take (i := 0) (v := ?_) (List.getElem?_toArray.trans rfl) (by kernel_rfl) (by kernel_rfl) (by kernel_rfl) (fun _ _ _ h => h) (Or.inl ⟨by rfl, ?_⟩) hHeld ?_
  rotate_left
  · intro w' hSw; have e3 : w'.cell? ⟨y.x, 2, none⟩ = some (.pointer (some ⟨y.mb, 0, none⟩)) := hSw.1.cell 2 rfl; have e4 : w'.cell? ⟨y.x, 3, none⟩ = some (.map (some y.bm)) := hSw.1.cell 3 rfl; have e0 : w'.cell? ⟨w.heap.size, 0, none⟩ = some (.int .i64 (s : Nat)) := hSw.2.cell 0 rfl; have e1 : w'.cell? ⟨w.heap.size, 1, none⟩ = some (.string d) := hSw.2.cell 1 rfl; clear hSw; go_simp; try with_reducible rfl
  try simp only [Act.put, List.setIfInBounds_toArray, List.set_cons_zero, List.set_cons_succ]
  refine wpAnyH_take (i := 1) (v := ?_) (List.getElem?_toArray.trans rfl) (by kernel_rfl) (by kernel_rfl) (by kernel_rfl) (fun _ _ _ h => h) (Or.inl ⟨by rfl, ?_⟩) hHeld ?_
  rotate_left
  · intro w' hSw; have e3 : w'.cell? ⟨y.x, 2, none⟩ = some (.pointer (some ⟨y.mb, 0, none⟩)) := hSw.1.cell 2 rfl; have e4 : w'.cell? ⟨y.x, 3, none⟩ = some (.map (some y.bm)) := hSw.1.cell 3 rfl; have e0 : w'.cell? ⟨w.heap.size, 0, none⟩ = some (.int .i64 (s : Nat)) := hSw.2.cell 0 rfl; have e1 : w'.cell? ⟨w.heap.size, 1, none⟩ = some (.string d) := hSw.2.cell 1 rfl; clear hSw; go_simp; try with_reducible rfl
  try simp only [Act.put, List.setIfInBounds_toArray, List.set_cons_zero, List.set_cons_succ]
  refine wpAnyH_take (i := 2) (v := ?_) (List.getElem?_toArray.trans rfl) (by kernel_rfl) (by kernel_rfl) (by kernel_rfl) (fun _ _ _ h => h) (Or.inl ⟨by rfl, ?_⟩) hHeld ?_
  rotate_left
  · intro w' hSw; have e3 : w'.cell? ⟨y.x, 2, none⟩ = some (.pointer (some ⟨y.mb, 0, none⟩)) := hSw.1.cell 2 rfl; have e4 : w'.cell? ⟨y.x, 3, none⟩ = some (.map (some y.bm)) := hSw.1.cell 3 rfl; have e0 : w'.cell? ⟨w.heap.size, 0, none⟩ = some (.int .i64 (s : Nat)) := hSw.2.cell 0 rfl; have e1 : w'.cell? ⟨w.heap.size, 1, none⟩ = some (.string d) := hSw.2.cell 1 rfl; clear hSw; go_simp; try with_reducible rfl
  try simp only [Act.put, List.setIfInBounds_toArray, List.set_cons_zero, List.set_cons_succ]
  refine wpAnyH_take (i := 3) (v := ?_) (List.getElem?_toArray.trans rfl) (by kernel_rfl) (by kernel_rfl) (by kernel_rfl) (fun _ _ _ h => h) (Or.inl ⟨by rfl, ?_⟩) hHeld ?_
  rotate_left
  · intro w' hSw; have e3 : w'.cell? ⟨y.x, 2, none⟩ = some (.pointer (some ⟨y.mb, 0, none⟩)) := hSw.1.cell 2 rfl; have e4 : w'.cell? ⟨y.x, 3, none⟩ = some (.map (some y.bm)) := hSw.1.cell 3 rfl; have e0 : w'.cell? ⟨w.heap.size, 0, none⟩ = some (.int .i64 (s : Nat)) := hSw.2.cell 0 rfl; have e1 : w'.cell? ⟨w.heap.size, 1, none⟩ = some (.string d) := hSw.2.cell 1 rfl; clear hSw; go_simp; try with_reducible rfl
  try simp only [Act.put, List.setIfInBounds_toArray, List.set_cons_zero, List.set_cons_succ]
  refine wpAnyH_take (i := 4) (v := ?_) (List.getElem?_toArray.trans rfl) (by kernel_rfl) (by kernel_rfl) (by kernel_rfl) (fun _ _ _ h => h) (Or.inl ⟨by rfl, ?_⟩) hHeld ?_
  rotate_left
  · intro w' hSw; have e3 : w'.cell? ⟨y.x, 2, none⟩ = some (.pointer (some ⟨y.mb, 0, none⟩)) := hSw.1.cell 2 rfl; have e4 : w'.cell? ⟨y.x, 3, none⟩ = some (.map (some y.bm)) := hSw.1.cell 3 rfl; have e0 : w'.cell? ⟨w.heap.size, 0, none⟩ = some (.int .i64 (s : Nat)) := hSw.2.cell 0 rfl; have e1 : w'.cell? ⟨w.heap.size, 1, none⟩ = some (.string d) := hSw.2.cell 1 rfl; clear hSw; go_simp; try with_reducible rfl
  try simp only [Act.put, List.setIfInBounds_toArray, List.set_cons_zero, List.set_cons_succ]
  refine wpAnyH_take (i := 5) (v := ?_) (List.getElem?_toArray.trans rfl) (by kernel_rfl) (by kernel_rfl) (by kernel_rfl) (fun _ _ _ h => h) (Or.inl ⟨by rfl, ?_⟩) hHeld ?_
  rotate_left
  · intro w' hSw; have e3 : w'.cell? ⟨y.x, 2, none⟩ = some (.pointer (some ⟨y.mb, 0, none⟩)) := hSw.1.cell 2 rfl; have e4 : w'.cell? ⟨y.x, 3, none⟩ = some (.map (some y.bm)) := hSw.1.cell 3 rfl; have e0 : w'.cell? ⟨w.heap.size, 0, none⟩ = some (.int .i64 (s : Nat)) := hSw.2.cell 0 rfl; have e1 : w'.cell? ⟨w.heap.size, 1, none⟩ = some (.string d) := hSw.2.cell 1 rfl; clear hSw; go_simp; try with_reducible rfl
  try simp only [Act.put, List.setIfInBounds_toArray, List.set_cons_zero, List.set_cons_succ]
  refine wpAnyH_ready (rs := [6]) (by kernel_rfl) (by simp) ?_
  refine AllReadyH.cons (List.getElem?_toArray.trans rfl) (fun K hK => ?_) AllReadyH.nil
  go_simp
  refine hK.out _ _ (⟨(hb.keep0 (gb_drew _ _)).keep gM (ne_some HU.own.2.2.1), (b0.keep0 (gb_drew _ _)).keep gM (ne_some (fun e => mp_blk HU.txt b0 e.symm))⟩) (fun hHeld => ?_)
  clear hK K
  try simp only [Act.put, List.setIfInBounds_toArray, List.set_cons_zero, List.set_cons_succ]
  refine wpAnyH_done (by kernel_rfl) ?_ _
  refine NoPanic.normal ?_
  go_wp2
  go_ret
  exact ⟨rfl, (HU.keep0 (gb_drew _ _)).setX gM hM, g0.trans ((D5.Kp.of0 (gb_drew u none)).trans ((kp_one gM).mono (fun _ e => .inr (.inr e))))⟩
/-- No sector is free. -/
theorem put_full {w : World} {base n : Nat} {k : Bk} {y : Bx} {g : Pg} {T : Tr} (h : TxV w base k y n g T) {p : Int} (hp : In64 p) (hX : T.X p = none) (d : ByteArray) (hT : M6.Tab w) (hl : T.m.length ≤ 1024) (hk : ¬ M6.nextF T.m 0 false < T.m.length) :
    Calls Tryz.prog 46 #[.pointer (some ⟨y.x, 0, none⟩), .int .i64 p, .string d] w (PutG w base k y n g T 11) := by
  unfold PutG
  obtain ⟨c0, c1, c2, c3, c4⟩ := h.cells
  have hlt := h.blk.lt
  have hrun : (Instr.lookup 72 (.map (some y.bm)) (.int .i64 p) true).run Tryz.prog w = .ok (.tuple #[.agg #[.int .i64 0, .string noE], .bool false]) w := h.txt.lookNo pairW hp hX
  have H := Lib.hid h
  have HT := Lib.hid hT
  have e1 : M6.takeE T.m = 11 := if_neg hk
  have e2 : M6.lowF T.m = -1 := if_neg hk
  have e3 : M6.takeS T.m = T.m := if_neg hk
  have HK : ∀ W, w.grownBy W none → Calls Tryz.prog 79 #[.pointer (some ⟨y.mb, 0, none⟩)] W (fun e w' => e = .returned (.tuple #[.int .i64 (-1), .int .i64 11]) ∧ TxV w' base k y n g T ∧ D5.Kp (footT y) w w') := by
    intro W gW
    have h1 := H.out.keep0 gW
    refine (M6.take_any y.mb T.m W h1.map (HT.out.keep0 gW) hl).mono ?_
    rintro e w' ⟨rfl, hm, gm⟩
    rw [e1, e2]
    rw [e3] at hm
    exact ⟨rfl, h1.setM gm hm, (D5.Kp.of0 gW).trans ((kp_one gm).mono (fun _ e => .inr (.inl e)))⟩
  have HK := Lib.hid HK
  clear h hX hT e1 e2 e3 hk
  go_enter Tryz.func46, Tryz.ntmps46
  go_wp2_with (go_at_call 79; (with_reducible refine (HK.out _ (gb_alloc _ _ none)).mono ?_); rintro e w1 ⟨rfl, h1, k1⟩)
  go_ret
  exact ⟨rfl, h1, k1⟩
set_option maxHeartbeats 2000000 in
theorem put_new {w : World} {base n : Nat} {k : Bk} {y : Bx} {g : Pg} {T : Tr} (h : TxV w base k y n g T) (hn : n < 1000000) {p : Int} (hp : In64 p) (hX : T.X p = none) (d : ByteArray) (hT : M6.Tab w) (hl : T.m.length ≤ 1024) (hk : M6.nextF T.m 0 false < T.m.length) :
    Calls Tryz.prog 46 #[.pointer (some ⟨y.x, 0, none⟩), .int .i64 p, .string d] w (PutG w base k y (n + 1) g ⟨T9.setF T.t p (M6.nextF T.m 0 false : Nat), M6.takeS T.m, upd T.X p (M6.nextF T.m 0 false, d)⟩ 0) := by
  unfold PutG
  obtain ⟨c0, c1, c2, c3, c4⟩ := h.cells
  have hlt := h.blk.lt
  have hrun : (Instr.lookup 72 (.map (some y.bm)) (.int .i64 p) true).run Tryz.prog w = .ok (.tuple #[.agg #[.int .i64 0, .string noE], .bool false]) w := h.txt.lookNo pairW hp hX
  have H := Lib.hid h
  have HT := Lib.hid hT
  have e1 : M6.takeE T.m = 0 := if_pos hk
  have e2 : M6.lowF T.m = (M6.nextF T.m 0 false : Nat) := if_pos hk
  obtain ⟨q, hq⟩ : ∃ q, M6.nextF T.m 0 false = q := ⟨_, rfl⟩
  rw [hq] at e2 hk ⊢
  have HK : ∀ W b1 b2, w.grownBy W none → Blk W w.heap.size 105 #[b1, b2] → Calls Tryz.prog 79 #[.pointer (some ⟨y.mb, 0, none⟩)] W (fun e w' => e = .returned (.tuple #[.int .i64 (q : Nat), .int .i64 0]) ∧ TxV w' base k y n g { T with m := M6.takeS T.m } ∧ Blk w' w.heap.size 105 #[b1, b2] ∧ D5.Kp (footT y) w w') := by
    intro W b1 b2 gW hB
    have h1 := H.out.keep0 gW
    refine (M6.take_any y.mb T.m W h1.map (HT.out.keep0 gW) hl).mono ?_
    rintro e w' ⟨rfl, hm, gm⟩
    rw [e1, e2]
    have := H.out.map.lt
    exact ⟨rfl, h1.setM gm hm, hB.keep gm (ne_some (by omega)), (D5.Kp.of0 gW).trans ((kp_one gm).mono (fun _ e => .inr (.inl e)))⟩
  have HK := Lib.hid HK
  have HS : ∀ W b1 b2, TxV W base k y n g { T with m := M6.takeS T.m } → Blk W w.heap.size 105 #[b1, b2] → D5.Kp (footT y) w W → Calls Tryz.prog 80 #[.pointer (some ⟨y.tb, 0, none⟩), .int .i64 p, .int .i64 (q : Nat)] W (fun e w' => (∃ z, e = .returned (.int .i64 z)) ∧ TxV w' base k y n g ⟨T9.setF T.t p (q : Nat), M6.takeS T.m, T.X⟩ ∧ Blk w' w.heap.size 105 #[b1, b2] ∧ D5.Kp (footT y) w w') := by
    intro W b1 b2 h1 hB hK
    refine (T9.set_any y.tb T.t p (q : Nat) W h1.tab).mono ?_
    rintro e w' ⟨rfl, ht, gt⟩
    have := H.out.tab.lt
    exact ⟨⟨_, rfl⟩, h1.setT gt ht, hB.keep gt (ne_some (by omega)), hK.trans ((kp_one gt).mono (fun _ e => .inl e))⟩
  have HS := Lib.hid HS
  clear h hX hT e1 e2 hk hq
  go_enter Tryz.func46, Tryz.ntmps46
  go_wp2_with (first
    | (go_at_call 79; (with_reducible refine (HK.out _ (.int .i64 0) (.string noE) (gb_alloc _ _ none) (Blk.mk _ _ _)).mono ?_); rintro e w1 ⟨rfl, h1, b1, k1⟩; obtain ⟨d0, d1, d2, d3, d4⟩ := h1.cells; have h1 := Lib.hid h1; have b1 := Lib.hid b1; have k1 := Lib.hid k1)
    | (go_at_call 80; (with_reducible refine (HS.out _ (.int .i64 0) (.string noE) h1.out b1.out k1.out).mono ?_); rintro e w2 ⟨⟨z, rfl⟩, h2, b2, k2⟩; obtain ⟨d0, d1, d2, d3, d4⟩ := h2.cells; have e0 : w2.cell? ⟨w.heap.size, 0, none⟩ = some (.int .i64 0) := b2.cell 0 rfl; have e1 : w2.cell? ⟨w.heap.size, 1, none⟩ = some (.string noE) := b2.cell 1 rfl; have f0 := b2.free 0; have f1 := b2.free 1; have h2 := Lib.hid h2; have b2 := Lib.hid b2; have k2 := Lib.hid k2))
  have hltX := H.out.lt
  refine wp_letter (fun u => Blk u w.heap.size 105 #[.int .i64 (q : Nat), .string d] ∧ TxV u base k y n g ⟨T9.setF T.t p (q : Nat), M6.takeS T.m, T.X⟩ ∧ y.x < w.heap.size ∧ D5.Kp (footT y) w u) ⟨(b2.out.set 0 _).set 1 _, (h2.out.past (gb_set _ _ _ _ _) hltX (Nat.le_refl _)).past (gb_set _ _ _ _ _) hltX (Nat.le_refl _), hlt, (k2.out.step (gb_set _ _ _ _ _) (fun j e => by cases e; exact .inr (Nat.le_refl _))).step (gb_set _ _ _ _ _) (fun j e => by cases e; exact .inr (Nat.le_refl _))⟩ ?_
  rintro u ⟨b0, HU, hu, g0⟩
  have hb := HU.blk
  obtain ⟨w', hput, hM, gM⟩ := (HU.txt.keep0 (gb_drew u none)).put pairW hn hp (q, d)
  have hput' : (Instr.mapUpdate 72 (.map (some y.bm)) (.int .i64 p) (.agg #[.int .i64 (q : Nat), .string d])).run Tryz.prog u.drew = .ok () w' := hput
  refine wp_region_noPanic ?_
  refine wp_region_held_drew (S := fun w' => Blk w' y.x 74 (txC k.p y) ∧ Blk w' w.heap.size 105 #[.int .i64 (q : Nat), .string d]) (by kernel_rfl) ⟨hb.keep0 (gb_drew _ _), b0.keep0 (gb_drew _ _)⟩ (fun hHeld => ?_)
  refine wpAnyH_take (i := 0) (v := ?_) (List.getElem?_toArray.trans rfl) (by kernel_rfl) (by kernel_rfl) (by kernel_rfl) (fun _ _ _ h => h) (Or.inl ⟨by rfl, ?_⟩) hHeld ?_
  rotate_left
  · intro w' hSw; have e3 : w'.cell? ⟨y.x, 2, none⟩ = some (.pointer (some ⟨y.mb, 0, none⟩)) := hSw.1.cell 2 rfl; have e4 : w'.cell? ⟨y.x, 3, none⟩ = some (.map (some y.bm)) := hSw.1.cell 3 rfl; have e0 : w'.cell? ⟨w.heap.size, 0, none⟩ = some (.int .i64 (q : Nat)) := hSw.2.cell 0 rfl; have e1 : w'.cell? ⟨w.heap.size, 1, none⟩ = some (.string d) := hSw.2.cell 1 rfl; clear hSw; go_simp; try with_reducible rfl
  try simp only [Act.put, List.setIfInBounds_toArray, List.set_cons_zero, List.set_cons_succ]
  refine wpAnyH_take (i := 1) (v := ?_) (List.getElem?_toArray.trans rfl) (by kernel_rfl) (by kernel_rfl) (by kernel_rfl) (fun _ _ _ h => h) (Or.inl ⟨by rfl, ?_⟩) hHeld ?_
  rotate_left
  · intro w' hSw; have e3 : w'.cell? ⟨y.x, 2, none⟩ = some (.pointer (some ⟨y.mb, 0, none⟩)) := hSw.1.cell 2 rfl; have e4 : w'.cell? ⟨y.x, 3, none⟩ = some (.map (some y.bm)) := hSw.1.cell 3 rfl; have e0 : w'.cell? ⟨w.heap.size, 0, none⟩ = some (.int .i64 (q : Nat)) := hSw.2.cell 0 rfl; have e1 : w'.cell? ⟨w.heap.size, 1, none⟩ = some (.string d) := hSw.2.cell 1 rfl; clear hSw; go_simp; try with_reducible rfl
  try simp only [Act.put, List.setIfInBounds_toArray, List.set_cons_zero, List.set_cons_succ]
  refine wpAnyH_take (i := 2) (v := ?_) (List.getElem?_toArray.trans rfl) (by kernel_rfl) (by kernel_rfl) (by kernel_rfl) (fun _ _ _ h => h) (Or.inl ⟨by rfl, ?_⟩) hHeld ?_
  rotate_left
  · intro w' hSw; have e3 : w'.cell? ⟨y.x, 2, none⟩ = some (.pointer (some ⟨y.mb, 0, none⟩)) := hSw.1.cell 2 rfl; have e4 : w'.cell? ⟨y.x, 3, none⟩ = some (.map (some y.bm)) := hSw.1.cell 3 rfl; have e0 : w'.cell? ⟨w.heap.size, 0, none⟩ = some (.int .i64 (q : Nat)) := hSw.2.cell 0 rfl; have e1 : w'.cell? ⟨w.heap.size, 1, none⟩ = some (.string d) := hSw.2.cell 1 rfl; clear hSw; go_simp; try with_reducible rfl
  try simp only [Act.put, List.setIfInBounds_toArray, List.set_cons_zero, List.set_cons_succ]
  refine wpAnyH_take (i := 3) (v := ?_) (List.getElem?_toArray.trans rfl) (by kernel_rfl) (by kernel_rfl) (by kernel_rfl) (fun _ _ _ h => h) (Or.inl ⟨by rfl, ?_⟩) hHeld ?_
  rotate_left
  · intro w' hSw; have e3 : w'.cell? ⟨y.x, 2, none⟩ = some (.pointer (some ⟨y.mb, 0, none⟩)) := hSw.1.cell 2 rfl; have e4 : w'.cell? ⟨y.x, 3, none⟩ = some (.map (some y.bm)) := hSw.1.cell 3 rfl; have e0 : w'.cell? ⟨w.heap.size, 0, none⟩ = some (.int .i64 (q : Nat)) := hSw.2.cell 0 rfl; have e1 : w'.cell? ⟨w.heap.size, 1, none⟩ = some (.string d) := hSw.2.cell 1 rfl; clear hSw; go_simp; try with_reducible rfl
  try simp only [Act.put, List.setIfInBounds_toArray, List.set_cons_zero, List.set_cons_succ]
  refine wpAnyH_take (i := 4) (v := ?_) (List.getElem?_toArray.trans rfl) (by kernel_rfl) (by kernel_rfl) (by kernel_rfl) (fun _ _ _ h => h) (Or.inl ⟨by rfl, ?_⟩) hHeld ?_
  rotate_left
  · intro w' hSw; have e3 : w'.cell? ⟨y.x, 2, none⟩ = some (.pointer (some ⟨y.mb, 0, none⟩)) := hSw.1.cell 2 rfl; have e4 : w'.cell? ⟨y.x, 3, none⟩ = some (.map (some y.bm)) := hSw.1.cell 3 rfl; have e0 : w'.cell? ⟨w.heap.size, 0, none⟩ = some (.int .i64 (q : Nat)) := hSw.2.cell 0 rfl; have e1 : w'.cell? ⟨w.heap.size, 1, none⟩ = some (.string d) := hSw.2.cell 1 rfl; clear hSw; go_simp; try with_reducible rfl
  try simp only [Act.put, List.setIfInBounds_toArray, List.set_cons_zero, List.set_cons_succ]
  refine wpAnyH_take (i := 5) (v := ?_) (List.getElem?_toArray.trans rfl) (by kernel_rfl) (by kernel_rfl) (by kernel_rfl) (fun _ _ _ h => h) (Or.inl ⟨by rfl, ?_⟩) hHeld ?_
  rotate_left
  · intro w' hSw; have e3 : w'.cell? ⟨y.x, 2, none⟩ = some (.pointer (some ⟨y.mb, 0, none⟩)) := hSw.1.cell 2 rfl; have e4 : w'.cell? ⟨y.x, 3, none⟩ = some (.map (some y.bm)) := hSw.1.cell 3 rfl; have e0 : w'.cell? ⟨w.heap.size, 0, none⟩ = some (.int .i64 (q : Nat)) := hSw.2.cell 0 rfl; have e1 : w'.cell? ⟨w.heap.size, 1, none⟩ = some (.string d) := hSw.2.cell 1 rfl; clear hSw; go_simp; try with_reducible rfl
  try simp only [Act.put, List.setIfInBounds_toArray, List.set_cons_zero, List.set_cons_succ]
  refine wpAnyH_ready (rs := [6]) (by kernel_rfl) (by simp) ?_
  refine AllReadyH.cons (List.getElem?_toArray.trans rfl) (fun K hK => ?_) AllReadyH.nil
  go_simp
  refine hK.out _ _ (⟨(hb.keep0 (gb_drew _ _)).keep gM (ne_some HU.own.2.2.1), (b0.keep0 (gb_drew _ _)).keep gM (ne_some (fun e => mp_blk HU.txt b0 e.symm))⟩) (fun hHeld => ?_)
  clear hK K
  try simp only [Act.put, List.setIfInBounds_toArray, List.set_cons_zero, List.set_cons_succ]
  refine wpAnyH_done (by kernel_rfl) ?_ _
  refine NoPanic.normal ?_
  go_wp2
  go_ret
  exact ⟨rfl, (HU.keep0 (gb_drew _ _)).setX gM hM, g0.trans ((D5.Kp.of0 (gb_drew u none)).trans ((kp_one gM).mono (fun _ e => .inr (.inr e))))⟩
end Go.Proofs.YtliiooldlooagaaGreatDoor.J10

/-
  What New, Write and Drop answer and leave, over this seat's translation; conditions: the transaction lies as Jf tells, its pager is not dead.
-/
namespace Go.Proofs.YtliiooldlooagaaGreatDoor.J10
open Go.RowKit Go.Maps
def NewG (w : World) (base : Nat) (k : Bk) (y : Bx) (n : Nat) (g : Pg) (T' : Tr) (p c : Int) (e : Ending) (w' : World) : Prop :=
  e = .returned (.tuple #[.int .i64 p, .int .i64 c]) ∧ TxV w' base k y n g T' ∧ D5.Kp (footT y) w w'
section
variable {w : World} {base n : Nat} {k : Bk} {y : Bx} {g : Pg} {T : Tr}
theorem new_nil (kd : Int) (b : ByteArray) (w : World) : Calls Tryz.prog 27 #[.pointer none, .int .i64 kd, .string b] w fun e w' => e = .returned (.tuple #[.int .i64 0, .int .i64 1]) ∧ w = w' := by
  go_enter Tryz.func27, Tryz.ntmps27
  go_wp2_with (go_at_call 29; (with_reducible refine (refuses_nil _).mono ?_); rintro e w' ⟨rfl, rfl⟩)
  go_ret2
  exact ⟨rfl, rfl⟩
theorem new_any (h : TxV w base k y n g T) (hd : g.dead = false) (hn : n < 1000000) (hT : M6.Tab w) (hl : T.m.length ≤ 1024) {kd : Int} {b : ByteArray} (hs : sealC kd b = 0) {j : Nat} (hj : j < 960) (hL : T9.lowN T.t.P = j + 1) (hE : T9.lowE T.t.P = 0) (hX : T.X ((j : Int) + 1) = none) :
    Calls Tryz.prog 27 #[.pointer (some ⟨y.x, 0, none⟩), .int .i64 kd, .string b] w fun e w' =>
      (M6.nextF T.m 0 false < T.m.length ∧ NewG w base k y (n + 1) g ⟨T9.setF T.t ((j : Int) + 1) (M6.nextF T.m 0 false : Nat), M6.takeS T.m, upd T.X ((j : Int) + 1) (M6.nextF T.m 0 false, sealT kd b)⟩ ((j : Int) + 1) 0 e w') ∨
      (¬ M6.nextF T.m 0 false < T.m.length ∧ NewG w base k y n g T 0 11 e w') := by
  unfold NewG
  obtain ⟨c0, c1, c2, c3, c4⟩ := h.cells
  have hlow : ∀ W, w.grownBy W none → Calls Tryz.prog 53 #[.pointer (some ⟨y.tb, 0, none⟩)] W (fun e w' => e = .returned (.tuple #[.int .i64 ((j : Int) + 1), .int .i64 0]) ∧ w.grownBy w' none) := by
    intro W gW
    refine (T9.lowest_any y.tb T.t W (h.tab.keep0 gW)).mono ?_
    rintro e w' ⟨rfl, g1⟩
    rw [hL, hE]
    exact ⟨rfl, gb_trans gW g1⟩
  have hsl : ∀ W, w.grownBy W none → Calls Tryz.prog 45 #[.int .i64 kd, .string b] W (fun e w' => e = .returned (.tuple #[.string (sealT kd b), .int .i64 0]) ∧ w.grownBy w' none) := by
    intro W gW
    refine (seal_any kd b W).mono ?_
    rintro e w' ⟨rfl, g1⟩
    rw [hs]
    exact ⟨rfl, gb_trans gW g1⟩
  have hne : ((j : Int) + 1 == 0) = false := by simp; omega
  obtain ⟨sd, hsd⟩ : ∃ sd, sealT kd b = sd := ⟨_, rfl⟩
  rw [hsd] at hsl ⊢
  have hp := in64_page hj
  by_cases hk : M6.nextF T.m 0 false < T.m.length
  · have hput : ∀ W, w.grownBy W none → Calls Tryz.prog 46 #[.pointer (some ⟨y.x, 0, none⟩), .int .i64 ((j : Int) + 1), .string sd] W (fun e w' => e = .returned (.int .i64 0) ∧ TxV w' base k y (n + 1) g ⟨T9.setF T.t ((j : Int) + 1) (M6.nextF T.m 0 false : Nat), M6.takeS T.m, upd T.X ((j : Int) + 1) (M6.nextF T.m 0 false, sd)⟩ ∧ D5.Kp (footT y) w w') := by
      intro W gW
      refine (put_new (h.keep0 gW) hn hp hX sd (hT.keep0 gW) hl hk).mono ?_
      rintro e w' ⟨rfl, h1, k1⟩
      exact ⟨rfl, h1, (D5.Kp.of0 gW).trans k1⟩
    have H := Lib.hid h
    have HL := Lib.hid hlow
    have HS := Lib.hid hsl
    have HP := Lib.hid hput
    clear h hT hL hE hX hlow hsl hput hs hsd
    obtain ⟨q, hq⟩ : ∃ q : Int, (j : Int) + 1 = q := ⟨_, rfl⟩
    rw [hq] at HL HP hne hp ⊢
    clear hq
    go_enter Tryz.func27, Tryz.ntmps27
    go_wp2_with (first
      | (go_at_call 29; (with_reducible refine (refuses_ok H.out hd).mono ?_); rintro e w' ⟨rfl, rfl⟩)
      | (go_at_call 45; (with_reducible refine (HS.out _ (gb_refl _ _)).mono ?_); rintro e w1 ⟨rfl, g1⟩; obtain ⟨d0, d1, d2, d3, d4⟩ := (H.out.keep0 g1).cells)
      | (go_at_call 53; (with_reducible refine (HL.out _ g1).mono ?_); rintro e w2 ⟨rfl, g2⟩)
      | (go_at_call 46; (with_reducible refine (HP.out _ g2).mono ?_); rintro e w3 ⟨rfl, h3, k3⟩))
    go_ret2
    exact .inl ⟨hk, rfl, h3, k3⟩
  · have hput : ∀ W, w.grownBy W none → Calls Tryz.prog 46 #[.pointer (some ⟨y.x, 0, none⟩), .int .i64 ((j : Int) + 1), .string sd] W (fun e w' => e = .returned (.int .i64 11) ∧ TxV w' base k y n g T ∧ D5.Kp (footT y) w w') := by
      intro W gW
      refine (put_full (h.keep0 gW) hp hX sd (hT.keep0 gW) hl hk).mono ?_
      rintro e w' ⟨rfl, h1, k1⟩
      exact ⟨rfl, h1, (D5.Kp.of0 gW).trans k1⟩
    have H := Lib.hid h
    have HL := Lib.hid hlow
    have HS := Lib.hid hsl
    have HP := Lib.hid hput
    clear h hT hL hE hX hlow hsl hput hs hsd
    obtain ⟨q, hq⟩ : ∃ q : Int, (j : Int) + 1 = q := ⟨_, rfl⟩
    rw [hq] at HL HP hne hp ⊢
    clear hq
    go_enter Tryz.func27, Tryz.ntmps27
    go_wp2_with (first
      | (go_at_call 29; (with_reducible refine (refuses_ok H.out hd).mono ?_); rintro e w' ⟨rfl, rfl⟩)
      | (go_at_call 45; (with_reducible refine (HS.out _ (gb_refl _ _)).mono ?_); rintro e w1 ⟨rfl, g1⟩; obtain ⟨d0, d1, d2, d3, d4⟩ := (H.out.keep0 g1).cells)
      | (go_at_call 53; (with_reducible refine (HL.out _ g1).mono ?_); rintro e w2 ⟨rfl, g2⟩)
      | (go_at_call 46; (with_reducible refine (HP.out _ g2).mono ?_); rintro e w3 ⟨rfl, h3, k3⟩))
    go_ret2
    exact .inr ⟨hk, rfl, h3, k3⟩
/-- No page is left. -/
theorem new_full (h : TxV w base k y n g T) (hd : g.dead = false) {kd : Int} {b : ByteArray} (hs : sealC kd b = 0) (hL : T9.lowN T.t.P = 0) (hE : T9.lowE T.t.P = 15) :
    Calls Tryz.prog 27 #[.pointer (some ⟨y.x, 0, none⟩), .int .i64 kd, .string b] w (NewG w base k y n g T 0 15) := by
  unfold NewG
  obtain ⟨c0, c1, c2, c3, c4⟩ := h.cells
  have hlow : ∀ W, w.grownBy W none → Calls Tryz.prog 53 #[.pointer (some ⟨y.tb, 0, none⟩)] W (fun e w' => e = .returned (.tuple #[.int .i64 0, .int .i64 15]) ∧ w.grownBy w' none) := by
    intro W gW
    refine (T9.lowest_any y.tb T.t W (h.tab.keep0 gW)).mono ?_
    rintro e w' ⟨rfl, g1⟩
    rw [hL, hE]
    exact ⟨rfl, gb_trans gW g1⟩
  have hsl : ∀ W, w.grownBy W none → Calls Tryz.prog 45 #[.int .i64 kd, .string b] W (fun e w' => e = .returned (.tuple #[.string (sealT kd b), .int .i64 0]) ∧ w.grownBy w' none) := by
    intro W gW
    refine (seal_any kd b W).mono ?_
    rintro e w' ⟨rfl, g1⟩
    rw [hs]
    exact ⟨rfl, gb_trans gW g1⟩
  have H := Lib.hid h
  have HL := Lib.hid hlow
  have HS := Lib.hid hsl
  clear h hL hE hlow hsl hs
  go_enter Tryz.func27, Tryz.ntmps27
  go_wp2_with (first
    | (go_at_call 29; (with_reducible refine (refuses_ok H.out hd).mono ?_); rintro e w' ⟨rfl, rfl⟩)
    | (go_at_call 45; (with_reducible refine (HS.out _ (gb_refl _ _)).mono ?_); rintro e w1 ⟨rfl, g1⟩; obtain ⟨d0, d1, d2, d3, d4⟩ := (H.out.keep0 g1).cells)
    | (go_at_call 53; (with_reducible refine (HL.out _ g1).mono ?_); rintro e w2 ⟨rfl, g2⟩))
  go_ret2
  exact ⟨rfl, H.out.keep0 g2, D5.Kp.of0 g2⟩
theorem write_nil (p kd : Int) (b : ByteArray) (w : World) : Calls Tryz.prog 18 #[.pointer none, .int .i64 p, .int .i64 kd, .string b] w fun e w' => e = .returned (.int .i64 1) ∧ w = w' := by
  go_enter Tryz.func18, Tryz.ntmps18
  go_wp2_with (go_at_call 44; (with_reducible refine (lacks_nil _ _).mono ?_); rintro e w' ⟨rfl, rfl⟩)
  go_ret
  exact ⟨rfl, rfl⟩
theorem write_none (h : TxV w base k y n g T) (hd : g.dead = false) {p : Int} (h0 : T9.getF T.t p = 0) (kd : Int) (b : ByteArray) : Calls Tryz.prog 18 #[.pointer (some ⟨y.x, 0, none⟩), .int .i64 p, .int .i64 kd, .string b] w (PutG w base k y n g T 13) := by
  unfold PutG
  have H := Lib.hid h
  have H0 := Lib.hid h0
  clear h h0
  go_enter Tryz.func18, Tryz.ntmps18
  go_wp2_with (go_at_call 44; (with_reducible refine (lacks_yes H.out hd _ H0.out).mono ?_); rintro e w' ⟨rfl, rfl⟩)
  go_ret
  exact ⟨rfl, H.out, D5.Kp.refl _ _⟩
theorem write_bad (h : TxV w base k y n g T) (hd : g.dead = false) {p : Int} (h0 : T9.getF T.t p ≠ 0) {kd : Int} {b : ByteArray} {c : Nat} (hs : sealC kd b = c) (hc : c ≠ 0) : Calls Tryz.prog 18 #[.pointer (some ⟨y.x, 0, none⟩), .int .i64 p, .int .i64 kd, .string b] w (PutG w base k y n g T (c : Nat)) := by
  unfold PutG
  have hsl := seal_any kd b w
  unfold SealGot at hsl
  rw [hs] at hsl
  have H := Lib.hid h
  have H0 := Lib.hid h0
  have HS := Lib.hid hsl
  have hne : (((c : Nat) : Int) != 0) = true := by simp [hc]
  clear h h0 hs hsl
  go_enter Tryz.func18, Tryz.ntmps18
  go_wp2_with (first
    | (go_at_call 44; (with_reducible refine (lacks_no H.out hd _ H0.out).mono ?_); rintro e w' ⟨rfl, rfl⟩)
    | (go_at_call 45; (with_reducible refine HS.out.mono ?_); rintro e w1 ⟨rfl, g1⟩))
  go_ret
  exact ⟨rfl, H.out.keep0 g1, D5.Kp.of0 g1⟩
/-- A Write that comes to put. -/
theorem write_put (h : TxV w base k y n g T) (hd : g.dead = false) {p : Int} (h0 : T9.getF T.t p ≠ 0) {kd : Int} {b : ByteArray} (hs : sealC kd b = 0) {n' : Nat} {T' : Tr} {c : Int}
    (hput : ∀ W, w.grownBy W none → Calls Tryz.prog 46 #[.pointer (some ⟨y.x, 0, none⟩), .int .i64 p, .string (sealT kd b)] W (PutG W base k y n' g T' c)) :
    Calls Tryz.prog 18 #[.pointer (some ⟨y.x, 0, none⟩), .int .i64 p, .int .i64 kd, .string b] w (PutG w base k y n' g T' c) := by
  unfold PutG at hput ⊢
  have hsl := seal_any kd b w
  unfold SealGot at hsl
  rw [hs] at hsl
  have H := Lib.hid h
  have H0 := Lib.hid h0
  have HS := Lib.hid hsl
  have HP := Lib.hid hput
  clear h h0 hs hsl hput
  go_enter Tryz.func18, Tryz.ntmps18
  go_wp2_with (first
    | (go_at_call 44; (with_reducible refine (lacks_no H.out hd _ H0.out).mono ?_); rintro e w' ⟨rfl, rfl⟩)
    | (go_at_call 45; (with_reducible refine HS.out.mono ?_); rintro e w1 ⟨rfl, g1⟩)
    | (go_at_call 46; (with_reducible refine (HP.out _ g1).mono ?_); rintro e w3 ⟨rfl, h3, k3⟩))
  go_ret
  exact ⟨rfl, h3, (D5.Kp.of0 g1).trans k3⟩
theorem drop_nil (p : Int) (w : World) : Calls Tryz.prog 19 #[.pointer none, .int .i64 p] w fun e w' => e = .returned (.int .i64 1) ∧ w = w' := by
  go_enter Tryz.func19, Tryz.ntmps19
  go_wp2_with (go_at_call 44; (with_reducible refine (lacks_nil _ _).mono ?_); rintro e w' ⟨rfl, rfl⟩)
  go_ret
  exact ⟨rfl, rfl⟩
theorem drop_none (h : TxV w base k y n g T) (hd : g.dead = false) {p : Int} (h0 : T9.getF T.t p = 0) : Calls Tryz.prog 19 #[.pointer (some ⟨y.x, 0, none⟩), .int .i64 p] w (PutG w base k y n g T 13) := by
  unfold PutG
  have H := Lib.hid h
  have H0 := Lib.hid h0
  clear h h0
  go_enter Tryz.func19, Tryz.ntmps19
  go_wp2_with (go_at_call 44; (with_reducible refine (lacks_yes H.out hd _ H0.out).mono ?_); rintro e w' ⟨rfl, rfl⟩)
  go_ret
  exact ⟨rfl, H.out, D5.Kp.refl _ _⟩
theorem drop_call {v : World} (h : TxV w base k y n g T) (hw : D5.Kp (footT y) v w) (p : Int) : Calls Tryz.prog 48 #[.pointer (some ⟨y.tb, 0, none⟩), .int .i64 p] w (fun e w' => e = .returned (.int .i64 (T9.dropE T.t p)) ∧ TxV w' base k y n g { T with t := T9.dropF T.t p } ∧ D5.Kp (footT y) v w') := by
  refine (T9.drop_any y.tb T.t p w h.tab).mono ?_
  rintro e w' ⟨rfl, ht, gt⟩
  exact ⟨rfl, h.setT gt ht, hw.trans ((kp_one gt).mono (fun _ e => .inl e))⟩
set_option maxRecDepth 100000 in
set_option maxHeartbeats 1000000 in
theorem drop_old (h : TxV w base k y n g T) (hd : g.dead = false) {p : Int} (hp : In64 p) (h0 : T9.getF T.t p ≠ 0) (hX : T.X p = none) (hE : T9.dropE T.t p = 0) : Calls Tryz.prog 19 #[.pointer (some ⟨y.x, 0, none⟩), .int .i64 p] w (PutG w base k y n g { T with t := T9.dropF T.t p } 0) := by
  unfold PutG
  obtain ⟨c0, c1, c2, c3, c4⟩ := h.cells
  have hlt := h.blk.lt
  have hrun : (Instr.lookup 72 (.map (some y.bm)) (.int .i64 p) true).run Tryz.prog w = .ok (.tuple #[.agg #[.int .i64 0, .string noE], .bool false]) w := h.txt.lookNo pairW hp hX
  have H := Lib.hid h
  have H0 := Lib.hid h0
  have HD : ∀ W, w.grownBy W none → Calls Tryz.prog 48 #[.pointer (some ⟨y.tb, 0, none⟩), .int .i64 p] W (fun e w' => e = .returned (.int .i64 0) ∧ TxV w' base k y n g { T with t := T9.dropF T.t p } ∧ D5.Kp (footT y) w w') := by
    intro W gW
    have := drop_call (h.keep0 gW) (D5.Kp.of0 (F := footT y) gW) p
    rwa [hE] at this
  have HD := Lib.hid HD
  clear h h0 hX hE
  go_enter Tryz.func19, Tryz.ntmps19
  go_wp2_with (first
    | (go_at_call 44; (with_reducible refine (lacks_no H.out hd _ H0.out).mono ?_); rintro e w' ⟨rfl, rfl⟩)
    | (go_at_call 48; (with_reducible refine (HD.out _ (gb_alloc _ _ none)).mono ?_); rintro e w2 ⟨rfl, h2, k2⟩))
  go_ret
  exact ⟨rfl, h2, k2⟩
set_option maxRecDepth 100000 in
set_option maxHeartbeats 2000000 in
theorem drop_new (h : TxV w base k y n g T) (hd : g.dead = false) {p : Int} (hp : In64 p) (h0 : T9.getF T.t p ≠ 0) {s : Nat} {d : ByteArray} (hX : T.X p = some (s, d)) (hl : T.m.length ≤ 1024) (hE : T9.dropE T.t p = 0) : Calls Tryz.prog 19 #[.pointer (some ⟨y.x, 0, none⟩), .int .i64 p] w (PutG w base k y n g ⟨T9.dropF T.t p, M6.giveS T.m (s : Nat), del T.X p⟩ 0) := by
  unfold PutG
  obtain ⟨c0, c1, c2, c3, c4⟩ := h.cells
  have hlt := h.blk.lt
  have hltX := h.lt
  have hrun : (Instr.lookup 72 (.map (some y.bm)) (.int .i64 p) true).run Tryz.prog w = .ok (.tuple #[.agg #[.int .i64 (s : Nat), .string d], .bool true]) w := h.txt.lookYes pairW hp hX
  have H := Lib.hid h
  have H0 := Lib.hid h0
  have HD : ∀ W, TxV W base k y n g ⟨T.t, M6.giveS T.m (s : Nat), del T.X p⟩ → D5.Kp (footT y) w W → Calls Tryz.prog 48 #[.pointer (some ⟨y.tb, 0, none⟩), .int .i64 p] W (fun e w' => e = .returned (.int .i64 0) ∧ TxV w' base k y n g ⟨T9.dropF T.t p, M6.giveS T.m (s : Nat), del T.X p⟩ ∧ D5.Kp (footT y) w w') := by
    intro W hW kW
    have := drop_call hW kW p
    rwa [hE] at this
  have HD := Lib.hid HD
  clear h h0 hX hE
  go_enter Tryz.func19, Tryz.ntmps19
  go_wp2_with (first
    | (go_at_call 44; (with_reducible refine (lacks_no H.out hd _ H0.out).mono ?_); rintro e w' ⟨rfl, rfl⟩)
    | fail)
  refine wp_letter (fun u => Blk u w.heap.size 105 #[.int .i64 (s : Nat), .string d] ∧ w.grownBy u none) ⟨Blk.mk _ _ _, gb_alloc _ _ _⟩ ?_
  rintro u ⟨b0, g0⟩
  have HU := H.out.keep0 (gb_trans g0 (gb_drew u none))
  have hb := HU.blk
  have b1 := b0.keep0 (gb_drew u none)
  have hG := M6.give_any y.mb T.m (s : Nat) u.drew HU.map hl
  refine wp_region_noPanic ?_
  refine wp_region_held_drew (S := fun w' => Blk w' y.x 74 (txC k.p y) ∧ Blk w' w.heap.size 105 #[.int .i64 (s : Nat), .string d]) (by kernel_rfl) ⟨hb, b1⟩ (fun hHeld => ?_)
  refine wpAnyH_take (i := 0) (v := ?_) (List.getElem?_toArray.trans rfl) (by kernel_rfl) (by kernel_rfl) (by kernel_rfl) (fun _ _ _ h => h) (Or.inl ⟨by rfl, ?_⟩) hHeld ?_
  rotate_left
  · intro w' hSw; have e3 : w'.cell? ⟨y.x, 2, none⟩ = some (.pointer (some ⟨y.mb, 0, none⟩)) := hSw.1.cell 2 rfl; have e0 : w'.cell? ⟨w.heap.size, 0, none⟩ = some (.int .i64 (s : Nat)) := hSw.2.cell 0 rfl; clear hSw; go_simp; try with_reducible rfl
  try simp only [Act.put, List.setIfInBounds_toArray, List.set_cons_zero, List.set_cons_succ]
  refine wpAnyH_take (i := 1) (v := ?_) (List.getElem?_toArray.trans rfl) (by kernel_rfl) (by kernel_rfl) (by kernel_rfl) (fun _ _ _ h => h) (Or.inl ⟨by rfl, ?_⟩) hHeld ?_
  rotate_left
  · intro w' hSw; have e3 : w'.cell? ⟨y.x, 2, none⟩ = some (.pointer (some ⟨y.mb, 0, none⟩)) := hSw.1.cell 2 rfl; have e0 : w'.cell? ⟨w.heap.size, 0, none⟩ = some (.int .i64 (s : Nat)) := hSw.2.cell 0 rfl; clear hSw; go_simp; try with_reducible rfl
  try simp only [Act.put, List.setIfInBounds_toArray, List.set_cons_zero, List.set_cons_succ]
  refine wpAnyH_take (i := 2) (v := ?_) (List.getElem?_toArray.trans rfl) (by kernel_rfl) (by kernel_rfl) (by kernel_rfl) (fun _ _ _ h => h) (Or.inl ⟨by rfl, ?_⟩) hHeld ?_
  rotate_left
  · intro w' hSw; have e3 : w'.cell? ⟨y.x, 2, none⟩ = some (.pointer (some ⟨y.mb, 0, none⟩)) := hSw.1.cell 2 rfl; have e0 : w'.cell? ⟨w.heap.size, 0, none⟩ = some (.int .i64 (s : Nat)) := hSw.2.cell 0 rfl; clear hSw; go_simp; try with_reducible rfl
  try simp only [Act.put, List.setIfInBounds_toArray, List.set_cons_zero, List.set_cons_succ]
  refine wpAnyH_take (i := 3) (v := ?_) (List.getElem?_toArray.trans rfl) (by kernel_rfl) (by kernel_rfl) (by kernel_rfl) (fun _ _ _ h => h) (Or.inl ⟨by rfl, ?_⟩) hHeld ?_
  rotate_left
  · intro w' hSw; have e3 : w'.cell? ⟨y.x, 2, none⟩ = some (.pointer (some ⟨y.mb, 0, none⟩)) := hSw.1.cell 2 rfl; have e0 : w'.cell? ⟨w.heap.size, 0, none⟩ = some (.int .i64 (s : Nat)) := hSw.2.cell 0 rfl; clear hSw; go_simp; try with_reducible rfl
  try simp only [Act.put, List.setIfInBounds_toArray, List.set_cons_zero, List.set_cons_succ]
  refine wpAnyH_take (i := 4) (v := ?_) (List.getElem?_toArray.trans rfl) (by kernel_rfl) (by kernel_rfl) (by kernel_rfl) (fun _ _ _ h => h) (Or.inl ⟨by rfl, ?_⟩) hHeld ?_
  rotate_left
  · intro w' hSw; have e3 : w'.cell? ⟨y.x, 2, none⟩ = some (.pointer (some ⟨y.mb, 0, none⟩)) := hSw.1.cell 2 rfl; have e0 : w'.cell? ⟨w.heap.size, 0, none⟩ = some (.int .i64 (s : Nat)) := hSw.2.cell 0 rfl; clear hSw; go_simp; try with_reducible rfl
  try simp only [Act.put, List.setIfInBounds_toArray, List.set_cons_zero, List.set_cons_succ]
  refine wpAnyH_take (i := 5) (v := ?_) (List.getElem?_toArray.trans rfl) (by kernel_rfl) (by kernel_rfl) (by kernel_rfl) (fun _ _ _ h => h) (Or.inl ⟨by rfl, ?_⟩) hHeld ?_
  rotate_left
  · intro w' hSw; have e3 : w'.cell? ⟨y.x, 2, none⟩ = some (.pointer (some ⟨y.mb, 0, none⟩)) := hSw.1.cell 2 rfl; have e0 : w'.cell? ⟨w.heap.size, 0, none⟩ = some (.int .i64 (s : Nat)) := hSw.2.cell 0 rfl; clear hSw; go_simp; try with_reducible rfl
  try simp only [Act.put, List.setIfInBounds_toArray, List.set_cons_zero, List.set_cons_succ]
  refine wpAnyH_take (i := 6) (v := ?_) (List.getElem?_toArray.trans rfl) (by kernel_rfl) (by kernel_rfl) (by kernel_rfl) (fun _ _ _ h => h) (Or.inl ⟨by rfl, ?_⟩) hHeld ?_
  rotate_left
  · intro w' hSw; have e3 : w'.cell? ⟨y.x, 2, none⟩ = some (.pointer (some ⟨y.mb, 0, none⟩)) := hSw.1.cell 2 rfl; have e0 : w'.cell? ⟨w.heap.size, 0, none⟩ = some (.int .i64 (s : Nat)) := hSw.2.cell 0 rfl; clear hSw; go_simp; try with_reducible rfl
  try simp only [Act.put, List.setIfInBounds_toArray, List.set_cons_zero, List.set_cons_succ]
  refine wpAnyH_ready (rs := [7]) (by kernel_rfl) (by simp) ?_
  refine AllReadyH.cons (List.getElem?_toArray.trans rfl) (fun K hK => ?_) AllReadyH.nil
  go_simp
  go_at_call 47
  (with_reducible refine hG.mono ?_)
  rintro e w2 ⟨rfl, hm, gm⟩
  refine hK.out _ _ (⟨hb.keep gm (ne_some HU.own.2.1), b1.keep gm (ne_some (fun e => blk_ne HU.map b1 (by decide) e.symm))⟩) (fun hHeld => ?_)
  clear hK K
  try simp only [Act.put, List.setIfInBounds_toArray, List.set_cons_zero, List.set_cons_succ]
  refine wpAnyH_done (by kernel_rfl) ?_ _
  refine NoPanic.normal ?_
  have h2 := HU.setM gm hm
  have k2 : D5.Kp (footT y) w w2 := (D5.Kp.of0 (gb_trans g0 (gb_drew u none))).trans ((kp_one gm).mono (fun _ e => .inr (.inl e)))
  clear hG HU hb b1 b0 g0 hHeld
  obtain ⟨d0, d1, d2, d3, d4⟩ := h2.cells
  have h2 := Lib.hid h2
  have k2 := Lib.hid k2
  go_wp2_with (first
    | (at_delete; refine wpList_mdel rfl _ _ rfl pairW rfl h2.out.txt p hp rfl ?_; intro w3 hM gM; have h3 := h2.out.setX gM hM; have k3 := k2.out.trans ((kp_one gM).mono (fun _ e => .inr (.inr e))); obtain ⟨z0, z1, z2, z3, z4⟩ := h3.cells; have h3 := Lib.hid h3; have k3 := Lib.hid k3)
    | (go_at_call 48; (with_reducible refine (HD.out _ h3.out k3.out).mono ?_); rintro e w4 ⟨rfl, h4, k4⟩)
    | fail)
  go_ret
  exact ⟨rfl, h4, k4⟩
end
end Go.Proofs.YtliiooldlooagaaGreatDoor.J10

/-
  Which pages stand, and whether a chunk has any (places.pages, places.fills, Pages), over this seat's translation; conditions: table, pager and transaction lie as Jf tells.
-/
namespace Go.Proofs.YtliiooldlooagaaGreatDoor.J10
open Go.RowKit Go.Maps
/-- The pages that stand, among the first ones. -/
def pagesTo (P : List Nat) (k : Nat) : List Nat := ((List.range k).filter fun j => P.getD j 0 != 0).map (· + 1)
def pagesN (P : List Nat) : List Nat := pagesTo P 960
theorem pagesF_N (P : List Nat) : pagesF P = (pagesN P).map fun n : Nat => (n : Int) := by
  unfold pagesF pagesN pagesTo
  rw [List.map_map]
  rfl
theorem pagesTo_no {P : List Nat} {k : Nat} (h : P.getD k 0 = 0) : pagesTo P (k + 1) = pagesTo P k := by
  unfold pagesTo
  rw [List.range_succ, List.filter_append, List.filter_cons, h]
  simp
theorem pagesTo_yes {P : List Nat} {k : Nat} (h : P.getD k 0 ≠ 0) : pagesTo P (k + 1) = pagesTo P k ++ [k + 1] := by
  unfold pagesTo
  have h' : ¬ P[k]?.getD 0 = 0 := by rwa [List.getD_eq_getElem?_getD] at h
  rw [List.range_succ, List.filter_append, List.filter_cons]
  simp [h']
theorem pagesTo_length (P : List Nat) (k : Nat) : (pagesTo P k).length ≤ k := by
  unfold pagesTo
  rw [List.length_map]
  exact Nat.le_trans (List.length_filter_le _ _) (by simp)
theorem getF_pos (t : T9.TB) (n : Nat) (h1 : 1 ≤ n) (h2 : n ≤ 960) : T9.getF t (n : Int) = t.P.getD (n - 1) 0 := by
  rw [show (n : Int) = ((n - 1 : Nat) : Int) + 1 by omega, T9.getF_nat t _ (by omega)]
set_option maxRecDepth 100000 in
set_option maxHeartbeats 2000000 in
theorem pages_any {w : World} {a : Nat} {v0 : Value} {t : T9.TB} (ha : T9.PT w a t) (hv : v0.cells = #[v0]) (hvp : ∃ q, v0 = .pointer q) : Calls Tryz.prog 30 #[.agg #[.pointer (some ⟨a, 0, none⟩), v0]] w (T9.NtsGot w (pagesN t.P)) := by
  obtain ⟨q0, rfl⟩ := hvp
  obtain ⟨i0, hi, hz0, hz1, hz2⟩ := info_parts T9.Tryz.infoInt
  have HA := Lib.hid ha
  clear ha hv
  go_enter Tryz.func30, Tryz.ntmps30
  go_wp2
  go_loopw [3, 4] (fun v i wr => ∃ n : Nat, 1 ≤ n ∧ n ≤ 961 ∧ i = .int .i64 (n : Nat) ∧ T9.RowIn w (pagesTo t.P (n - 1)) v wr ∧ Blk wr w.heap.size 71 #[.pointer (some ⟨a, 0, none⟩), .pointer q0]) (fun _ i _ => 961 - (intOf i).toNat)
  case atStart => exact ⟨1, by omega, by omega, rfl, ⟨World.ownsRow_nil _ _ _ _, gb_alloc _ _ _⟩, Blk.mk _ _ _⟩
  case round =>
    obtain ⟨n, h1, h2, rfl, hR, hB⟩ := hrel
    obtain ⟨ao, cap, rfl⟩ := hR.shape
    have hlen := pagesTo_length t.P (n - 1)
    have c0 : wr.cell? ⟨w.heap.size, 0, none⟩ = some (.pointer (some ⟨a, 0, none⟩)) := hB.cell 0 rfl
    by_cases hlt : n ≤ 960
    · have hle : ((n : Int) ≤ 960) = True := by simp; omega
      have HP := Lib.hid (T9.get_any a t (n : Nat) wr (HA.out.keep0 hR.2))
      rw [getF_pos t n h1 hlt] at HP
      by_cases hz : t.P.getD (n - 1) 0 = 0
      · rw [hz] at HP
        have hR2 : T9.RowIn w (pagesTo t.P (n + 1 - 1)) (.slice ao (pagesTo t.P (n - 1)).length cap) wr := by rw [show n + 1 - 1 = n - 1 + 1 by omega, pagesTo_no hz]; exact hR
        have HR := Lib.hid hR2
        have HB := Lib.hid hB
        clear hR hR2 hz hB
        generalize pagesTo t.P (n - 1) = L at *
        go_wp2_with (first
          | (go_at_call 55; (with_reducible refine HP.out.mono ?_); rintro e w1 ⟨rfl, rfl⟩)
          | fail)
        go_roundw
        case rel => exact ⟨n + 1, by omega, by omega, by go_num, HR.out, HB.out⟩
        case measure => simp [intOf]; omega
      · have HS := Lib.hid (pagesTo_yes hz)
        obtain ⟨z, hzz⟩ : ∃ z, t.P.getD (n - 1) 0 = z := ⟨_, rfl⟩
        rw [hzz] at HP hz
        have hne : (((z : Nat) : Int) != 0) = true := by simp [hz]
        have hn1 : n - 1 + 1 = n := by omega
        rw [hn1] at HS
        generalize pagesTo t.P (n - 1) = L at *
        have own := hR.1
        have hg := hR.2.size
        have hno := D5.blk_row hB own (by decide)
        have HR := Lib.hid hR
        have HB := Lib.hid hB
        clear hR hB hzz
        go_wp2_with (first
          | (go_at_call 55; (with_reducible refine HP.out.mono ?_); rintro e w1 ⟨rfl, rfl⟩)
          | (at_builtin; go_must (refine wpList_append_own _ rfl _ _ 40 rfl w.heap.size 3 i0 (.int .i64 0) 1 8 Tryz.underlying40 hi hz0 hz1 hz2 rfl (by decide) _ _ _ rfl (own.alloc _) ⟨_, 0, none⟩ 1 1 [.int .i64 (n : Nat)] rfl rfl (T9.cell1_new _ _ _) (T9.one_int _ _) (by unfold maxLen; omega) (by omega) (by simp; omega) ?_; intro v3 w3 own3 g3 _)))
        have HQ := Lib.hid (HR.out.snoc own3 g3)
        have HB3 := Lib.hid ((HB.out.keep0 (gb_alloc _ _ none)).keep g3 (Ne.symm hno))
        clear own3 g3 own HR HB hno
        go_roundw
        case rel => exact ⟨n + 1, by omega, by omega, by go_num, by rw [show n + 1 - 1 = n by omega, HS.out]; exact HQ.out, HB3.out⟩
        case measure => simp [intOf]; omega
    · obtain rfl : n = 961 := by omega
      have HR := Lib.hid hR
      clear hR
      go_wp2
      go_ret
      exact ⟨_, rfl, HR.out.1, HR.out.2⟩
theorem pages_empty (w : World) : Calls Tryz.prog 12 #[.pointer none] w fun e w' => e = .returned (.slice none 0 0) ∧ w = w' := by
  go_enter Tryz.func12, Tryz.ntmps12
  go_wp2_with (go_at_call 29; (with_reducible refine (refuses_nil _).mono ?_); rintro e w' ⟨rfl, rfl⟩)
  go_ret
  exact ⟨rfl, rfl⟩
theorem txPages_any {w : World} {base n : Nat} {k : Bk} {y : Bx} {g : Pg} {T : Tr} (h : TxV w base k y n g T) (hd : g.dead = false) : Calls Tryz.prog 12 #[.pointer (some ⟨y.x, 0, none⟩)] w (T9.NtsGot w (pagesN T.t.P)) := by
  obtain ⟨c0, c1, c2, c3, c4⟩ := h.cells
  have H := Lib.hid h
  clear h
  unfold T9.NtsGot
  go_enter Tryz.func12, Tryz.ntmps12
  go_wp2_with (first
    | (go_at_call 29; (with_reducible refine (refuses_ok H.out hd).mono ?_); rintro e w' ⟨rfl, rfl⟩)
    | (go_at_call 30; (with_reducible refine (pages_any H.out.tab rfl ⟨_, rfl⟩).mono ?_); rintro e w1 ⟨v, rfl, o1, g1⟩))
  go_ret
  exact ⟨_, rfl, o1, g1⟩
set_option maxRecDepth 100000 in
set_option maxHeartbeats 2000000 in
theorem fills_any {w : World} {a : Nat} {q0 : Option Addr} {t : T9.TB} (ha : T9.PT w a t) (i : Nat) (hi : i < 8) : Calls Tryz.prog 59 #[.agg #[.pointer (some ⟨a, 0, none⟩), .pointer q0], .int .i64 (i : Nat)] w fun e w' => e = .returned (.bool (fillsB t.P i)) ∧ w.grownBy w' none := by
  have HA := Lib.hid ha
  clear ha
  have e1 : IntKind.i64.wrap ((i : Int) * 120) = (i : Int) * 120 := IntWalk.i64_in _ (by omega)
  have e2 : IntKind.i64.wrap ((i : Int) * 120 + 1) = (i : Int) * 120 + 1 := IntWalk.i64_in _ (by omega)
  have e3 : IntKind.i64.wrap ((i : Int) + 1) = (i : Int) + 1 := IntWalk.i64_in _ (by omega)
  have e4 : IntKind.i64.wrap (((i : Int) + 1) * 120) = ((i : Int) + 1) * 120 := IntWalk.i64_in _ (by omega)
  go_enter Tryz.func59, Tryz.ntmps59
  go_wp2
  go_loopw [5] (fun c wr => ∃ m : Nat, m ≤ 120 ∧ c = .int .i64 ((i : Int) * 120 + 1 + (m : Nat)) ∧ (∀ j, j < m → t.P.getD (120 * i + j) 0 = 0) ∧ Blk wr w.heap.size 71 #[.pointer (some ⟨a, 0, none⟩), .pointer q0] ∧ w.grownBy wr none) (fun c _ => (1000 * 120 - intOf c).toNat)
  case atStart => exact ⟨0, by omega, by simp, (fun j h => absurd h (Nat.not_lt_zero j)), Blk.mk _ _ _, gb_alloc _ _ _⟩
  case round =>
    obtain ⟨m, hm, rfl, h0, hB, hg⟩ := hrel
    have c0 : wr.cell? ⟨w.heap.size, 0, none⟩ = some (.pointer (some ⟨a, 0, none⟩)) := hB.cell 0 rfl
    obtain ⟨z, hz⟩ : ∃ z, (i : Int) * 120 + 1 + (m : Nat) = z := ⟨_, rfl⟩
    rw [hz]
    by_cases hlt : m < 120
    · have hle : (z ≤ ((i : Int) + 1) * 120) = True := by simp; omega
      have hz1 : z = (120 * i + m + 1 : Nat) := by omega
      have HP := Lib.hid (T9.get_any a t z wr (HA.out.keep0 hg))
      have hgf : T9.getF t z = t.P.getD (120 * i + m) 0 := by rw [hz1, getF_pos t _ (by omega) (by omega)]; rfl
      rw [hgf] at HP
      by_cases hc : t.P.getD (120 * i + m) 0 = 0
      · rw [hc] at HP
        have HB := Lib.hid hB
        have HG := Lib.hid hg
        have H0 := Lib.hid h0
        have HC := Lib.hid hc
        have HZ := Lib.hid hz
        have e5 : IntKind.i64.wrap (z + 1) = z + 1 := IntWalk.i64_in _ (by omega)
        clear hB hg h0 hc hgf hz hz1
        go_wp2_with (first
          | (go_at_call 55; (with_reducible refine HP.out.mono ?_); rintro e w1 ⟨rfl, rfl⟩)
          | fail)
        go_roundw
        case rel => exact ⟨m + 1, by omega, by have := HZ.out; congr 1; omega, fun j hj => (Nat.lt_succ_iff_lt_or_eq.1 hj).elim (H0.out j) (fun e => e ▸ HC.out), HB.out, HG.out⟩
        case measure => have := HZ.out; simp [intOf]; omega
      · have hf : fillsB t.P i = true := (fills_yes hi).2 ⟨120 * i + m, by omega, by omega, hc⟩
        have HF := Lib.hid hf
        obtain ⟨x, hx⟩ : ∃ x, t.P.getD (120 * i + m) 0 = x := ⟨_, rfl⟩
        rw [hx] at HP hc
        have hne : (((x : Nat) : Int) != 0) = true := by simp [hc]
        have HG := Lib.hid hg
        clear hB hg h0 hgf hz hz1 hf hx
        go_wp2_with (first
          | (go_at_call 55; (with_reducible refine HP.out.mono ?_); rintro e w1 ⟨rfl, rfl⟩)
          | fail)
        go_ret
        exact ⟨T9.ret_bool HF.out.symm, HG.out⟩
    · have hle : (z ≤ ((i : Int) + 1) * 120) = False := by simp; omega
      have hf : fillsB t.P i = false := by
        cases hb : fillsB t.P i
        · rfl
        · obtain ⟨j, hj, hji, hn⟩ := (fills_yes hi).1 hb
          exact absurd (by have := h0 (j % 120) (by omega); rwa [show 120 * i + j % 120 = j by omega] at this) hn
      have HF := Lib.hid hf
      have HG := Lib.hid hg
      clear hB hg h0 hz hf
      go_wp2
      go_ret
      exact ⟨T9.ret_bool HF.out.symm, HG.out⟩
end Go.Proofs.YtliiooldlooagaaGreatDoor.J10

/-
  The disk's operations beside a pager and a transaction; what sealed and Read answer of pages that stand on the disk, over this seat's translation; conditions: they lie as Jf tells, the disk is on and not armed.
-/
namespace Go.Proofs.YtliiooldlooagaaGreatDoor.J10
open Go.RowKit Go.Maps
/-- The disk was written: the pager has it still. -/
theorem PgV.disk' {w w' : World} {base : Nat} {k : Bk} {g : Pg} (h : PgV w base k g) (e : D5.Kp (D5.footP k.dp k.vs k.vp k.bm) w w') {F : Nat → Prop} {s' : D5.St} (hp : D5.PD w' base F k.dp s') :
    ∃ k', k'.p = k.p ∧ k'.tb = k.tb ∧ k'.mb = k.mb ∧ k'.dp = k.dp ∧ PgV w' base k' { g with d := s' } ∧ ∀ i, D5.footP k'.dp k'.vs k'.vp k'.bm i → F i := by
  obtain ⟨vs, vp, bm, D, hv, hf⟩ := hp
  exact ⟨⟨k.p, k.dp, vs, vp, bm, D, k.tb, k.mb⟩, rfl, rfl, rfl, rfl, ⟨e.blk h.blk h.ne_p.1, hv, kp_pt e h.tab h.ne_tb.1, kp_pm e h.map h.ne_mb, h.len, h.bp, h.bt, h.bmb⟩, hf⟩
theorem foot_of {k k' : Bk} {F : Nat → Prop} (e1 : k'.p = k.p) (e2 : k'.tb = k.tb) (e3 : k'.mb = k.mb) (hf : ∀ i, D5.footP k'.dp k'.vs k'.vp k'.bm i → D5.footP k.dp k.vs k.vp k.bm i ∨ F i) : ∀ i, footG k' i → footG k i ∨ F i := by
  rintro i (h | h | h | h)
  · exact .inl (.inl (by rw [h, e1]))
  · exact (hf i h).imp (fun h => .inr (.inl h)) id
  · exact .inl (.inr (.inr (.inl (by rw [h, e2]))))
  · exact .inl (.inr (.inr (.inr (by rw [h, e3]))))
theorem TxV.disk' {w w' : World} {base n : Nat} {k k' : Bk} {y : Bx} {g g' : Pg} {T : Tr} (h : TxV w base k y n g T) (e : D5.Kp (D5.footP k.dp k.vs k.vp k.bm) w w') (hp : PgV w' base k' g') (e1 : k'.p = k.p) (e2 : k'.tb = k.tb) (e3 : k'.mb = k.mb)
    (hf : ∀ i, D5.footP k'.dp k'.vs k'.vp k'.bm i → D5.footP k.dp k.vs k.vp k.bm i ∨ w.heap.size ≤ i) : TxV w' base k' y n g' T := by
  obtain ⟨f1, f2, f3, f4⟩ := h.far
  refine ⟨hp, ?_, kp_pt e h.tab (fun hh => f2 (.inr (.inl hh))), kp_pm e h.map (fun hh => f3 (.inr (.inl hh))), h.txt.kp e (fun hh => f4 (.inr (.inl hh))), by rw [e2]; exact h.ntb, by rw [e3]; exact h.nmb, ?_, h.bx, h.bt, h.bmb, h.bbm⟩
  · rw [e1]; exact e.blk h.blk (fun hh => f1 (.inr (.inl hh)))
  · intro e4
    rcases hf y.bm (.inr (.inl e4)) with h5 | h5
    · exact f4 (.inr (.inl h5))
    · have := h.txt.lt; omega
/-- A disk that is on, and not armed, without pending writes. -/
def Idle (s : D5.St) : Prop := s.off = false ∧ s.armed = false ∧ s.pend = []
theorem Idle.op {s : D5.St} (h : Idle s) : Idle (D5.opS s true) ∧ D5.opE s true = 0 ∧ (D5.opS s true).secs = s.secs := by
  obtain ⟨h1, h2, h3⟩ := h
  unfold D5.opS D5.opE
  simp [h1, h2, h3, Idle]
theorem has_nat {s : D5.St} {m : Nat} (h : m < s.secs.length) : D5.hasF s (m : Int) = true := by unfold D5.hasF; simp [h]
theorem Idle.read {s : D5.St} (h : Idle s) {m : Nat} (hm : m < s.secs.length) : D5.opE s (D5.hasF s (m : Int)) = 0 ∧ D5.readS s (m : Int) = secAt s.secs m ∧ D5.opS s (D5.hasF s (m : Int)) = D5.opS s true := by
  have h1 := h.op
  rw [has_nat hm]
  refine ⟨h1.2.1, ?_, rfl⟩
  unfold D5.readS secAt
  rw [has_nat hm, if_pos h1.2.1, h.2.2, Int.toNat_natCast]
  rfl
/-- A Read of the disk, beside a transaction. -/
def ReadG (w : World) (base : Nat) (k : Bk) (y : Bx) (n : Nat) (g : Pg) (T : Tr) (d : ByteArray) (e : Ending) (w' : World) : Prop :=
  e = .returned (.tuple #[.string d, .int .i64 0]) ∧ ∃ k', k'.p = k.p ∧ k'.tb = k.tb ∧ k'.mb = k.mb ∧ k'.dp = k.dp ∧ TxV w' base k' y n { g with d := D5.opS g.d true } T ∧ (∀ i, D5.footP k'.dp k'.vs k'.vp k'.bm i → D5.footP k.dp k.vs k.vp k.bm i) ∧ D5.Kp (D5.footP k.dp k.vs k.vp k.bm) w w'
theorem read_call {w : World} {base n N : Nat} {k : Bk} {y : Bx} {g : Pg} {T : Tr} (h : TxV w base k y n g T) (hi : Idle g.d) (hok : g.d.Ok N) (hN : N ≤ 900000) {m : Nat} (hm : m < g.d.secs.length) :
    Calls Tryz.prog 85 #[.pointer (some ⟨k.dp, 0, none⟩), .int .i64 (m : Nat)] w (ReadG w base k y n g T (secAt g.d.secs m)) := by
  obtain ⟨r1, r2, r3⟩ := hi.read hm
  have hl := hok.len
  refine (D5.dread_any w base (D5.footP k.dp k.vs k.vp k.bm) k.dp g.d (m : Nat) N ⟨k.vs, k.vp, k.bm, k.D, h.pg.disk, fun _ h => h⟩ hok hN ⟨by omega, by omega⟩).mono ?_
  rintro e w' ⟨rfl, hp, hk⟩
  rw [r1, r2]
  rw [r3] at hp
  obtain ⟨k', e1, e2, e3, e4, hp', hf⟩ := h.pg.disk' hk hp
  exact ⟨rfl, k', e1, e2, e3, e4, h.disk' hk hp' e1 e2 e3 (fun i hi => .inl (hf i hi)), hf, hk⟩
set_option maxRecDepth 100000 in
set_option maxHeartbeats 2000000 in
theorem sealed_any {w : World} {base n N : Nat} {k : Bk} {y : Bx} {g : Pg} {T : Tr} (h : TxV w base k y n g T) (hi : Idle g.d) (hok : g.d.Ok N) (hN : N ≤ 900000) {p : Int} (hp : In64 p) (hX : T.X p = none) {m : Nat} (hg : T9.getF T.t p = m) (hm : m < g.d.secs.length) :
    Calls Tryz.prog 101 #[.pointer (some ⟨y.x, 0, none⟩), .int .i64 p] w (ReadG w base k y n g T (secAt g.d.secs m)) := by
  unfold ReadG
  obtain ⟨c0, c1, c2, c3, c4⟩ := h.cells
  have hlt := h.blk.lt
  have hrun : (Instr.lookup 72 (.map (some y.bm)) (.int .i64 p) true).run Tryz.prog w = .ok (.tuple #[.agg #[.int .i64 0, .string noE], .bool false]) w := h.txt.lookNo pairW hp hX
  have H := Lib.hid h
  have HR := Lib.hid (fun W (hW : TxV W base k y n g T) => read_call hW hi hok hN hm)
  have HG := Lib.hid hg
  clear h hX hi hok hN hg hm
  obtain ⟨d, hd⟩ : ∃ d, secAt g.d.secs m = d := ⟨_, rfl⟩
  rw [hd] at HR ⊢
  clear hd
  go_enter Tryz.func101, Tryz.ntmps101
  go_wp2
  refine wp_letter (fun u => w.grownBy u none) (gb_alloc _ _ _) ?_
  intro u g0
  have g1 := gb_trans g0 (gb_drew u none)
  have HU := H.out.keep0 g1
  have hb := HU.blk
  have hc := HU.pg.cells.1
  have hG := T9.get_any y.tb T.t p u.drew HU.tab
  rw [HG.out] at hG
  have hR := HR.out _ HU
  unfold ReadG at hR
  refine wp_region_noPanic ?_
  refine wp_region_held_drew (S := fun w' => Blk w' y.x 74 (txC k.p y) ∧ w'.cell? ⟨k.p, 0, none⟩ = some (.pointer (some ⟨k.dp, 0, none⟩))) (by kernel_rfl) ⟨hb, hc⟩ (fun hHeld => ?_)
  refine wpAnyH_take (i := 0) (v := ?_) (List.getElem?_toArray.trans rfl) (by kernel_rfl) (by kernel_rfl) (by kernel_rfl) (fun _ _ _ h => h) (Or.inl ⟨by rfl, ?_⟩) hHeld ?_
  rotate_left
  · intro w' hSw; have e0 : w'.cell? ⟨y.x, 0, none⟩ = some (.pointer (some ⟨k.p, 0, none⟩)) := hSw.1.cell 0 rfl; have e1 : w'.cell? ⟨y.x, 1, none⟩ = some (.pointer (some ⟨y.tb, 0, none⟩)) := hSw.1.cell 1 rfl; have e2 := hSw.2; clear hSw; go_simp; try with_reducible rfl
  try simp only [Act.put, List.setIfInBounds_toArray, List.set_cons_zero, List.set_cons_succ]
  refine wpAnyH_take (i := 1) (v := ?_) (List.getElem?_toArray.trans rfl) (by kernel_rfl) (by kernel_rfl) (by kernel_rfl) (fun _ _ _ h => h) (Or.inl ⟨by rfl, ?_⟩) hHeld ?_
  rotate_left
  · intro w' hSw; have e0 : w'.cell? ⟨y.x, 0, none⟩ = some (.pointer (some ⟨k.p, 0, none⟩)) := hSw.1.cell 0 rfl; have e1 : w'.cell? ⟨y.x, 1, none⟩ = some (.pointer (some ⟨y.tb, 0, none⟩)) := hSw.1.cell 1 rfl; have e2 := hSw.2; clear hSw; go_simp; try with_reducible rfl
  try simp only [Act.put, List.setIfInBounds_toArray, List.set_cons_zero, List.set_cons_succ]
  refine wpAnyH_take (i := 2) (v := ?_) (List.getElem?_toArray.trans rfl) (by kernel_rfl) (by kernel_rfl) (by kernel_rfl) (fun _ _ _ h => h) (Or.inl ⟨by rfl, ?_⟩) hHeld ?_
  rotate_left
  · intro w' hSw; have e0 : w'.cell? ⟨y.x, 0, none⟩ = some (.pointer (some ⟨k.p, 0, none⟩)) := hSw.1.cell 0 rfl; have e1 : w'.cell? ⟨y.x, 1, none⟩ = some (.pointer (some ⟨y.tb, 0, none⟩)) := hSw.1.cell 1 rfl; have e2 := hSw.2; clear hSw; go_simp; try with_reducible rfl
  try simp only [Act.put, List.setIfInBounds_toArray, List.set_cons_zero, List.set_cons_succ]
  refine wpAnyH_take (i := 3) (v := ?_) (List.getElem?_toArray.trans rfl) (by kernel_rfl) (by kernel_rfl) (by kernel_rfl) (fun _ _ _ h => h) (Or.inl ⟨by rfl, ?_⟩) hHeld ?_
  rotate_left
  · intro w' hSw; have e0 : w'.cell? ⟨y.x, 0, none⟩ = some (.pointer (some ⟨k.p, 0, none⟩)) := hSw.1.cell 0 rfl; have e1 : w'.cell? ⟨y.x, 1, none⟩ = some (.pointer (some ⟨y.tb, 0, none⟩)) := hSw.1.cell 1 rfl; have e2 := hSw.2; clear hSw; go_simp; try with_reducible rfl
  try simp only [Act.put, List.setIfInBounds_toArray, List.set_cons_zero, List.set_cons_succ]
  refine wpAnyH_take (i := 4) (v := ?_) (List.getElem?_toArray.trans rfl) (by kernel_rfl) (by kernel_rfl) (by kernel_rfl) (fun _ _ _ h => h) (Or.inl ⟨by rfl, ?_⟩) hHeld ?_
  rotate_left
  · intro w' hSw; have e0 : w'.cell? ⟨y.x, 0, none⟩ = some (.pointer (some ⟨k.p, 0, none⟩)) := hSw.1.cell 0 rfl; have e1 : w'.cell? ⟨y.x, 1, none⟩ = some (.pointer (some ⟨y.tb, 0, none⟩)) := hSw.1.cell 1 rfl; have e2 := hSw.2; clear hSw; go_simp; try with_reducible rfl
  try simp only [Act.put, List.setIfInBounds_toArray, List.set_cons_zero, List.set_cons_succ]
  refine wpAnyH_take (i := 5) (v := ?_) (List.getElem?_toArray.trans rfl) (by kernel_rfl) (by kernel_rfl) (by kernel_rfl) (fun _ _ _ h => h) (Or.inl ⟨by rfl, ?_⟩) hHeld ?_
  rotate_left
  · intro w' hSw; have e0 : w'.cell? ⟨y.x, 0, none⟩ = some (.pointer (some ⟨k.p, 0, none⟩)) := hSw.1.cell 0 rfl; have e1 : w'.cell? ⟨y.x, 1, none⟩ = some (.pointer (some ⟨y.tb, 0, none⟩)) := hSw.1.cell 1 rfl; have e2 := hSw.2; clear hSw; go_simp; try with_reducible rfl
  try simp only [Act.put, List.setIfInBounds_toArray, List.set_cons_zero, List.set_cons_succ]
  refine wpAnyH_take (i := 6) (v := ?_) (List.getElem?_toArray.trans rfl) (by kernel_rfl) (by kernel_rfl) (by kernel_rfl) (fun _ _ _ h => h) (Or.inl ⟨by rfl, ?_⟩) hHeld ?_
  rotate_left
  · intro w' hSw; have e0 : w'.cell? ⟨y.x, 0, none⟩ = some (.pointer (some ⟨k.p, 0, none⟩)) := hSw.1.cell 0 rfl; have e1 : w'.cell? ⟨y.x, 1, none⟩ = some (.pointer (some ⟨y.tb, 0, none⟩)) := hSw.1.cell 1 rfl; have e2 := hSw.2; clear hSw; go_simp; try with_reducible rfl
  try simp only [Act.put, List.setIfInBounds_toArray, List.set_cons_zero, List.set_cons_succ]
  refine wpAnyH_take (i := 7) (v := ?_) (List.getElem?_toArray.trans rfl) (by kernel_rfl) (by kernel_rfl) (by kernel_rfl) (fun _ _ _ h => h) (Or.inl ⟨by rfl, ?_⟩) hHeld ?_
  rotate_left
  · intro w' hSw; have e0 : w'.cell? ⟨y.x, 0, none⟩ = some (.pointer (some ⟨k.p, 0, none⟩)) := hSw.1.cell 0 rfl; have e1 : w'.cell? ⟨y.x, 1, none⟩ = some (.pointer (some ⟨y.tb, 0, none⟩)) := hSw.1.cell 1 rfl; have e2 := hSw.2; clear hSw; go_simp; try with_reducible rfl
  try simp only [Act.put, List.setIfInBounds_toArray, List.set_cons_zero, List.set_cons_succ]
  refine wpAnyH_take (i := 8) (v := ?_) (List.getElem?_toArray.trans rfl) (by kernel_rfl) (by kernel_rfl) (by kernel_rfl) (fun _ _ _ h => h) (Or.inl ⟨by rfl, ?_⟩) hHeld ?_
  rotate_left
  · intro w' hSw; have e0 : w'.cell? ⟨y.x, 0, none⟩ = some (.pointer (some ⟨k.p, 0, none⟩)) := hSw.1.cell 0 rfl; have e1 : w'.cell? ⟨y.x, 1, none⟩ = some (.pointer (some ⟨y.tb, 0, none⟩)) := hSw.1.cell 1 rfl; have e2 := hSw.2; clear hSw; go_simp; try with_reducible rfl
  try simp only [Act.put, List.setIfInBounds_toArray, List.set_cons_zero, List.set_cons_succ]
  refine wpAnyH_take (i := 9) (v := ?_) (List.getElem?_toArray.trans rfl) (by kernel_rfl) (by kernel_rfl) (by kernel_rfl) (fun _ _ _ h => h) (Or.inl ⟨by rfl, ?_⟩) hHeld ?_
  rotate_left
  · intro w' hSw; have e0 : w'.cell? ⟨y.x, 0, none⟩ = some (.pointer (some ⟨k.p, 0, none⟩)) := hSw.1.cell 0 rfl; have e1 : w'.cell? ⟨y.x, 1, none⟩ = some (.pointer (some ⟨y.tb, 0, none⟩)) := hSw.1.cell 1 rfl; have e2 := hSw.2; clear hSw; go_simp; try with_reducible rfl
  try simp only [Act.put, List.setIfInBounds_toArray, List.set_cons_zero, List.set_cons_succ]
  refine wpAnyH_take (i := 10) (v := ?_) (List.getElem?_toArray.trans rfl) (by kernel_rfl) (by kernel_rfl) (by kernel_rfl) (fun _ _ _ h => h) (Or.inl ⟨by rfl, ?_⟩) hHeld ?_
  rotate_left
  · intro w' hSw; have e0 : w'.cell? ⟨y.x, 0, none⟩ = some (.pointer (some ⟨k.p, 0, none⟩)) := hSw.1.cell 0 rfl; have e1 : w'.cell? ⟨y.x, 1, none⟩ = some (.pointer (some ⟨y.tb, 0, none⟩)) := hSw.1.cell 1 rfl; have e2 := hSw.2; clear hSw; go_simp; try with_reducible rfl
  try simp only [Act.put, List.setIfInBounds_toArray, List.set_cons_zero, List.set_cons_succ]
  refine wpAnyH_take (i := 11) (v := ?_) (List.getElem?_toArray.trans rfl) (by kernel_rfl) (by kernel_rfl) (by kernel_rfl) (fun _ _ _ h => h) (Or.inl ⟨by rfl, ?_⟩) hHeld ?_
  rotate_left
  · intro w' hSw; have e0 : w'.cell? ⟨y.x, 0, none⟩ = some (.pointer (some ⟨k.p, 0, none⟩)) := hSw.1.cell 0 rfl; have e1 : w'.cell? ⟨y.x, 1, none⟩ = some (.pointer (some ⟨y.tb, 0, none⟩)) := hSw.1.cell 1 rfl; have e2 := hSw.2; clear hSw; go_simp; try with_reducible rfl
  try simp only [Act.put, List.setIfInBounds_toArray, List.set_cons_zero, List.set_cons_succ]
  refine wpAnyH_take (i := 12) (v := ?_) (List.getElem?_toArray.trans rfl) (by kernel_rfl) (by kernel_rfl) (by kernel_rfl) (fun _ _ _ h => h) (Or.inl ⟨by rfl, ?_⟩) hHeld ?_
  rotate_left
  · intro w' hSw; have e0 : w'.cell? ⟨y.x, 0, none⟩ = some (.pointer (some ⟨k.p, 0, none⟩)) := hSw.1.cell 0 rfl; have e1 : w'.cell? ⟨y.x, 1, none⟩ = some (.pointer (some ⟨y.tb, 0, none⟩)) := hSw.1.cell 1 rfl; have e2 := hSw.2; clear hSw; go_simp; try with_reducible rfl
  try simp only [Act.put, List.setIfInBounds_toArray, List.set_cons_zero, List.set_cons_succ]
  refine wpAnyH_ready (rs := [13]) (by kernel_rfl) (by simp) ?_
  refine AllReadyH.cons (List.getElem?_toArray.trans rfl) (fun K hK => ?_) AllReadyH.nil
  go_simp
  go_at_call 55
  (with_reducible refine hG.mono ?_)
  rintro e w2 ⟨rfl, rfl⟩
  refine hK.out _ _ (hHeld) (fun hHeld => ?_)
  clear hK K
  try simp only [Act.put, List.setIfInBounds_toArray, List.set_cons_zero, List.set_cons_succ]
  refine wpAnyH_ready (rs := [14]) (by kernel_rfl) (by simp) ?_
  refine AllReadyH.cons (List.getElem?_toArray.trans rfl) (fun K hK => ?_) AllReadyH.nil
  go_simp
  go_at_call 85
  (with_reducible refine hR.mono ?_)
  rintro e w2 ⟨rfl, k', z1, z2, z3, z4, h2, hf, k2⟩
  refine hK.out _ _ (⟨k2.blk hb (fun hh => HU.far.1 (.inr (.inl hh))), by have := h2.pg.cells.1; rwa [z1, z4] at this⟩) (fun hHeld => ?_)
  clear hK K
  try simp only [Act.put, List.setIfInBounds_toArray, List.set_cons_zero, List.set_cons_succ]
  refine wpAnyH_take (i := 15) (v := ?_) (List.getElem?_toArray.trans rfl) (by kernel_rfl) (by kernel_rfl) (by kernel_rfl) (fun _ _ _ h => h) (Or.inl ⟨by rfl, ?_⟩) hHeld ?_
  rotate_left
  · intro w' hSw; have e0 : w'.cell? ⟨y.x, 0, none⟩ = some (.pointer (some ⟨k.p, 0, none⟩)) := hSw.1.cell 0 rfl; have e1 : w'.cell? ⟨y.x, 1, none⟩ = some (.pointer (some ⟨y.tb, 0, none⟩)) := hSw.1.cell 1 rfl; have e2 := hSw.2; clear hSw; go_simp; try with_reducible rfl
  try simp only [Act.put, List.setIfInBounds_toArray, List.set_cons_zero, List.set_cons_succ]
  refine wpAnyH_take (i := 16) (v := ?_) (List.getElem?_toArray.trans rfl) (by kernel_rfl) (by kernel_rfl) (by kernel_rfl) (fun _ _ _ h => h) (Or.inl ⟨by rfl, ?_⟩) hHeld ?_
  rotate_left
  · intro w' hSw; have e0 : w'.cell? ⟨y.x, 0, none⟩ = some (.pointer (some ⟨k.p, 0, none⟩)) := hSw.1.cell 0 rfl; have e1 : w'.cell? ⟨y.x, 1, none⟩ = some (.pointer (some ⟨y.tb, 0, none⟩)) := hSw.1.cell 1 rfl; have e2 := hSw.2; clear hSw; go_simp; try with_reducible rfl
  try simp only [Act.put, List.setIfInBounds_toArray, List.set_cons_zero, List.set_cons_succ]
  refine wpAnyH_take (i := 17) (v := ?_) (List.getElem?_toArray.trans rfl) (by kernel_rfl) (by kernel_rfl) (by kernel_rfl) (fun _ _ _ h => h) (Or.inl ⟨by rfl, ?_⟩) hHeld ?_
  rotate_left
  · intro w' hSw; have e0 : w'.cell? ⟨y.x, 0, none⟩ = some (.pointer (some ⟨k.p, 0, none⟩)) := hSw.1.cell 0 rfl; have e1 : w'.cell? ⟨y.x, 1, none⟩ = some (.pointer (some ⟨y.tb, 0, none⟩)) := hSw.1.cell 1 rfl; have e2 := hSw.2; clear hSw; go_simp; try with_reducible rfl
  try simp only [Act.put, List.setIfInBounds_toArray, List.set_cons_zero, List.set_cons_succ]
  refine wpAnyH_take (i := 18) (v := ?_) (List.getElem?_toArray.trans rfl) (by kernel_rfl) (by kernel_rfl) (by kernel_rfl) (fun _ _ _ h => h) (Or.inl ⟨by rfl, ?_⟩) hHeld ?_
  rotate_left
  · intro w' hSw; have e0 : w'.cell? ⟨y.x, 0, none⟩ = some (.pointer (some ⟨k.p, 0, none⟩)) := hSw.1.cell 0 rfl; have e1 : w'.cell? ⟨y.x, 1, none⟩ = some (.pointer (some ⟨y.tb, 0, none⟩)) := hSw.1.cell 1 rfl; have e2 := hSw.2; clear hSw; go_simp; try with_reducible rfl
  try simp only [Act.put, List.setIfInBounds_toArray, List.set_cons_zero, List.set_cons_succ]
  refine wpAnyH_take (i := 19) (v := ?_) (List.getElem?_toArray.trans rfl) (by kernel_rfl) (by kernel_rfl) (by kernel_rfl) (fun _ _ _ h => h) (Or.inl ⟨by rfl, ?_⟩) hHeld ?_
  rotate_left
  · intro w' hSw; have e0 : w'.cell? ⟨y.x, 0, none⟩ = some (.pointer (some ⟨k.p, 0, none⟩)) := hSw.1.cell 0 rfl; have e1 : w'.cell? ⟨y.x, 1, none⟩ = some (.pointer (some ⟨y.tb, 0, none⟩)) := hSw.1.cell 1 rfl; have e2 := hSw.2; clear hSw; go_simp; try with_reducible rfl
  try simp only [Act.put, List.setIfInBounds_toArray, List.set_cons_zero, List.set_cons_succ]
  refine wpAnyH_done (by kernel_rfl) ?_ _
  refine NoPanic.normal ?_
  have h2 := Lib.hid h2
  have hkw := (D5.Kp.of0 g1).trans k2
  clear hHeld hR hG hc hb
  go_wp2
  go_ret2
  exact ⟨rfl, k', z1, z2, z3, z4, h2.out, hf, hkw⟩
theorem list_ba {a b : ByteArray} (h : a.data.toList = b.data.toList) : a = b := by
  obtain ⟨⟨a⟩⟩ := a
  obtain ⟨⟨b⟩⟩ := b
  have h' : a = b := h
  rw [h']
theorem toList_mk (l : List UInt8) : (⟨l.toArray⟩ : ByteArray).data.toList = l := rfl
/-- What opens of a sealed page. -/
theorem open_sealB {kd : Nat} {b : ByteArray} (h1 : 1 ≤ kd) (h2 : kd ≤ 255) (h3 : b.size ≤ 240) (w : World) : Calls Tryz.prog 102 #[.string (sealB kd b)] w fun e w' => e = .returned (.tuple #[.int .i64 (kd : Nat), .string b, .nilIface]) ∧ w.grownBy w' none := by
  have hl : b.data.toList.length ≤ 240 := by rw [Array.length_toList]; exact h3
  refine (C7.open_any (sealB kd b) w).mono ?_
  rintro e w' ⟨ho, _⟩
  have e1 : (sealB kd b).data.toList = C7.sealF kd b.data.toList := rfl
  rw [e1, C7.open_seal kd _ hl h1 (by omega), C7.kind_seal kd _ (by omega), C7.body_seal kd _ hl] at ho
  exact ho rfl
set_option maxHeartbeats 1000000 in
/-- A page that stands on the disk. -/
theorem txRead_any {w : World} {base n N : Nat} {k : Bk} {y : Bx} {g : Pg} {T : Tr} (h : TxV w base k y n g T) (hd : g.dead = false) (hi : Idle g.d) (hok : g.d.Ok N) (hN : N ≤ 900000) {p : Int} (hp : In64 p) (hX : T.X p = none) {m : Nat} (hg : T9.getF T.t p = m) (h0 : m ≠ 0) (hm : m < g.d.secs.length) {kd : Nat} {b : ByteArray} (hs : secAt g.d.secs m = sealB kd b) (h1 : 1 ≤ kd) (h2 : kd ≤ 254) (h3 : b.size ≤ 240) :
    Calls Tryz.prog 71 #[.pointer (some ⟨y.x, 0, none⟩), .int .i64 p] w fun e w' => e = .returned (.tuple #[.int .i64 (kd : Nat), .string b, .int .i64 0]) ∧ ∃ k', k'.p = k.p ∧ k'.tb = k.tb ∧ k'.mb = k.mb ∧ k'.dp = k.dp ∧ TxV w' base k' y n { g with d := D5.opS g.d true } T ∧ (∀ i, D5.footP k'.dp k'.vs k'.vp k'.bm i → D5.footP k.dp k.vs k.vp k.bm i) ∧ D5.Kp (D5.footP k.dp k.vs k.vp k.bm) w w' := by
  have hS := sealed_any h hi hok hN hp hX hg hm
  unfold ReadG at hS
  rw [hs] at hS
  have hO := open_sealB h1 (by omega : kd ≤ 255) h3
  obtain ⟨s, hse⟩ : ∃ s, sealB kd b = s := ⟨_, rfl⟩
  rw [hse] at hS hO
  have HS := Lib.hid hS
  have HO := Lib.hid hO
  have H := Lib.hid h
  have HL := Lib.hid (lacks_no h hd p (by rw [hg]; exact h0))
  clear hS hO h hi hok hN hX hg h0 hm hs h1 h2 h3 hse
  go_enter Tryz.func71, Tryz.ntmps71
  go_wp2_with (first
    | (go_at_call 44; (with_reducible refine HL.out.mono ?_); rintro e w' ⟨rfl, rfl⟩)
    | (go_at_call 101; (with_reducible refine HS.out.mono ?_); rintro e w1 ⟨rfl, k', z1, z2, z3, z4, h2, hf, k2⟩; have h2 := Lib.hid h2; have k2 := Lib.hid k2; have hf := Lib.hid hf)
    | (go_at_call 102; (with_reducible refine (HO.out _).mono ?_); rintro e w2 ⟨rfl, g2⟩))
  go_ret3
  exact ⟨rfl, k', z1, z2, z3, z4, h2.out.keep0 g2, hf.out, k2.out.trans (D5.Kp.of0 g2)⟩
end Go.Proofs.YtliiooldlooagaaGreatDoor.J10

/-
  The texts that a transaction wrote (written), and a chunk's text with its sector (chunk), over this seat's translation; conditions: the transaction lies as Jf tells.
-/
namespace Go.Proofs.YtliiooldlooagaaGreatDoor.J10
open Go.RowKit Go.Maps
/-- A row of writes, new. -/
def WrGot (w : World) (L : List (Int × ByteArray)) (e : Ending) (w' : World) : Prop :=
  ∃ v lo, e = .returned v ∧ w.heap.size ≤ lo ∧ lo ≤ w'.heap.size ∧ w'.ownsRow lo 105 2 v L.length (D5.wrC L) ∧ w.grownBy w' none
def wrTo (X : Pgs) (L : List Nat) (i : Nat) : List (Int × ByteArray) := (L.take i).filterMap fun n : Nat => wrOf X (n : Int)
theorem wrTo_all (P : List Nat) (X : Pgs) : wrTo X (pagesN P) (pagesN P).length = wrF P X := by
  unfold wrTo wrF
  rw [List.take_length, pagesF_N, List.filterMap_map]
  rfl
theorem wrTo_no {X : Pgs} {L : List Nat} {i n : Nat} (h : L[i]? = some n) (hX : X (n : Int) = none) : wrTo X L (i + 1) = wrTo X L i := by
  unfold wrTo
  rw [D5.take_one L i n h, List.filterMap_append]
  simp [wrOf, hX]
theorem wrTo_yes {X : Pgs} {L : List Nat} {i n : Nat} (h : L[i]? = some n) {s : Nat} {d : ByteArray} (hX : X (n : Int) = some (s, d)) : wrTo X L (i + 1) = wrTo X L i ++ [((s : Int), d)] := by
  unfold wrTo
  rw [D5.take_one L i n h, List.filterMap_append]
  simp [wrOf, hX]
theorem wrTo_length (X : Pgs) (L : List Nat) (i : Nat) : (wrTo X L i).length ≤ i := Nat.le_trans (List.length_filterMap_le _ _) (by rw [List.length_take]; omega)
theorem pagesN_length (P : List Nat) : (pagesN P).length ≤ 960 := pagesTo_length P 960
theorem pagesN_lt {P : List Nat} {i n : Nat} (h : (pagesN P)[i]? = some n) : 1 ≤ n ∧ n ≤ 960 := by
  have hm := List.mem_of_getElem? h
  unfold pagesN pagesTo at hm
  obtain ⟨j, hj, rfl⟩ := List.mem_map.1 hm
  have := List.mem_range.1 (List.mem_filter.1 hj).1
  omega
set_option maxRecDepth 100000 in
set_option maxHeartbeats 4000000 in
theorem written_any {w : World} {base n : Nat} {k : Bk} {y : Bx} {g : Pg} {T : Tr} (h : TxV w base k y n g T) : Calls Tryz.prog 58 #[.pointer (some ⟨y.x, 0, none⟩)] w (WrGot w (wrF T.t.P T.X)) := by
  unfold WrGot
  obtain ⟨i0, hi0, hz0, hz1, hz2⟩ := info_parts D5.Tryz.infoWr
  obtain ⟨c0, c1, c2, c3, c4⟩ := h.cells
  have HA := Lib.hid (wrTo_all T.t.P T.X)
  have HPg := Lib.hid (fun W (hW : TxV W base k y n g T) => pages_any (v0 := .pointer (some ⟨y.mb, 0, none⟩)) hW.tab rfl ⟨_, rfl⟩)
  unfold T9.NtsGot at HPg
  have hL := pagesN_length T.t.P
  have HLt := Lib.hid (fun i n => @pagesN_lt T.t.P i n)
  obtain ⟨L, hLe⟩ : ∃ L, pagesN T.t.P = L := ⟨_, rfl⟩
  rw [hLe] at HA HPg hL HLt
  have H := Lib.hid h
  clear h hLe
  go_enter Tryz.func58, Tryz.ntmps58
  go_wp2_with (first
    | (go_at_call 30; (with_reducible refine (HPg.out _ H.out).mono ?_); rintro e w1 ⟨v, rfl, o1, g1⟩; obtain ⟨ao, cap, rfl, _⟩ := Sl.of_owns o1; have o1 := Lib.hid o1)
    | fail)
  have H1 := Lib.hid (H.out.keep0 g1)
  have s1 := g1.size
  clear c0 c1 c2 c3 c4
  go_loopw [3, 14] (fun v i wr => ∃ m : Nat, m ≤ L.length ∧ i = .int .i64 (m : Nat) ∧ wr.ownsRow w1.heap.size 105 2 v (wrTo T.X L m).length (D5.wrC (wrTo T.X L m)) ∧ w1.grownBy wr none) (fun _ i _ => L.length - (intOf i).toNat)
  case atStart => exact ⟨0, by omega, rfl, World.ownsRow_nil _ _ _ _, gb_refl _ _⟩
  case round =>
    obtain ⟨m, hm, rfl, own, hg⟩ := hrel
    obtain ⟨o3, cap3, rfl, _⟩ := Sl.of_owns own
    have hlen := wrTo_length T.X L m
    by_cases hlt : m < L.length
    · have hd1 : decide ((m : Int) < (L.length : Int)) = true := decide_eq_true (by omega)
      obtain ⟨q, hq⟩ : ∃ q, L[m]? = some q := ⟨_, List.getElem?_eq_getElem hlt⟩
      obtain ⟨hq1, hq2⟩ := HLt.out m q hq
      obtain ⟨x, cap', hx0, _, hx⟩ := (Sl.of_owns o1.out).some (by omega)
      injection hx0 with hx0 _ _
      subst hx0
      have d0 := hg.cell (hx m (.int .i64 (q : Nat)) (by unfold intsC; rw [List.getElem?_map, hq]; rfl)) (by simp)
      have HW := Lib.hid (H1.out.keep0 hg)
      obtain ⟨c0, c1, c2, c3, c4⟩ := HW.out.cells
      have hbx := HW.out.blk.lt
      have h0m : (0 : Int) ≤ (m : Int) := by omega
      have h1m : (m : Int) < (L.length : Int) := by omega
      have hq64 : In64 (q : Int) := ⟨by omega, by omega⟩
      have hsz := hg.size
      cases hX : T.X (q : Int) with
      | none =>
        have hrun : (Instr.lookup 72 (.map (some y.bm)) (.int .i64 (q : Nat)) true).run Tryz.prog wr = .ok (.tuple #[.agg #[.int .i64 0, .string noE], .bool false]) wr := HW.out.txt.lookNo pairW hq64 hX
        have HS := Lib.hid (wrTo_no hq hX)
        have HO := Lib.hid own
        have HG := Lib.hid hg
        clear own hg hX hx hq
        generalize wrTo T.X L m = R at *
        go_wp2
        go_roundw
        case rel => exact ⟨m + 1, by omega, by go_num, by rw [HS.out]; exact HO.out.alloc _, gb_trans HG.out (gb_alloc _ _ none)⟩
        case measure => simp [intOf]; omega
      | some z =>
        obtain ⟨s, d⟩ := z
        have hrun : (Instr.lookup 72 (.map (some y.bm)) (.int .i64 (q : Nat)) true).run Tryz.prog wr = .ok (.tuple #[.agg #[.int .i64 (s : Nat), .string d], .bool true]) wr := HW.out.txt.lookYes pairW hq64 hX
        have HS := Lib.hid (wrTo_yes hq hX)
        have own0 := own.alloc (.cells #[.int .i64 (s : Nat), .string d] 105)
        have HG := Lib.hid hg
        have hn2 : ∀ j u, [Value.int .i64 (s : Nat), .string d][j]? = some u → ((wr.alloc (.cells #[.int .i64 (s : Nat), .string d] 105)).alloc (.cells #[.int .i64 (s : Nat), .string d] 105)).cell? ((⟨wr.heap.size + 1, 0, none⟩ : Addr).add j) = some u := by
          have := D5.cells2_new (wr.alloc (.cells #[.int .i64 (s : Nat), .string d] 105)) (.int .i64 (s : Nat)) (.string d) 105
          rwa [World.size_alloc] at this
        have HN2 := Lib.hid hn2
        clear own hg hX hx hq hn2
        generalize wrTo T.X L m = R at *
        go_wp2_with (at_builtin; go_must (refine wpList_append_own _ rfl _ _ 75 rfl w1.heap.size 105 i0 (.agg #[.int .i64 0, .string ⟨#[]⟩]) 2 24 Tryz.underlying75 hi0 hz0 hz1 hz2 rfl (by decide) _ R.length _ rfl (own0.alloc _) ⟨wr.heap.size + 1, 0, none⟩ 1 1 [.int .i64 (s : Nat), .string d] rfl rfl HN2.out (D5.one_wr _ _) (by unfold maxLen; omega) (by omega) (by simp at *; omega) ?_; intro v3 w3 own3 g3 _))
        have hgn := gb_app (gb_trans HG.out (gb_alloc wr (.cells #[.int .i64 (s : Nat), .string d] 105) none)) own0 (Nat.le_refl _) g3
        have hnew : w3.ownsRow w1.heap.size 105 2 v3 (R ++ [((s : Int), d)]).length (D5.wrC (R ++ [((s : Int), d)])) := owns_cast own3 (by simp) (D5.wrC_snoc R ((s : Int), d)).symm
        have HN := Lib.hid hnew
        have HGn := Lib.hid hgn
        clear own3 g3 own0 hnew hgn
        go_wp2
        go_roundw
        case rel => exact ⟨v3, _, _, _, .int .i64 ((m : Int) + 1), ⟨m + 1, by omega, by go_num, by rw [HS.out]; exact HN.out, HGn.out⟩, rfl, rfl, rfl, rfl, rfl⟩
        case measure => simp [intOf]; omega
    · obtain rfl : m = L.length := by omega
      have HO := Lib.hid own
      have HG := Lib.hid hg
      clear own hg
      have hd1 : decide ((L.length : Int) < (L.length : Int)) = false := decide_eq_false (by omega)
      go_wp2
      go_ret
      refine ⟨_, w1.heap.size, rfl, s1, HG.out.size, ?_, gb_trans g1 HG.out⟩
      rw [← HA.out]
      exact HO.out
/-- A result that lies in a variable, and one in a slot. -/
theorem results_cell_tmp {fn : Func} {p q : Tmp} {t : TypeId} (h : fn.results = #[.cell p t, .tmp q]) (tmps : Array Value) (w : World) (b : Nat) (v u : Value)
    (hp : tmps.getD p undef = .pointer (some ⟨b, 0, none⟩)) (hq : tmps.getD q undef = u) (hb : (loadVar t ⟨b, 0, none⟩).run Tryz.prog w = .ok v w) : (results fn tmps).run Tryz.prog w = .ok (.tuple #[v, u]) w := by
  have hp' : tmps[p]?.getD undef = .pointer (some ⟨b, 0, none⟩) := by simpa using hp
  have hq' : tmps[q]?.getD undef = u := by simpa using hq
  simp [results, h, hp', hq', asAddr, hb]
theorem load_write {w : World} {b : Nat} {u v : Value} (h : Blk w b 105 #[u, v]) : (loadVar 105 ⟨b, 0, none⟩).run Tryz.prog w = .ok (.agg #[u, v]) w :=
  run_loadVar_row w b 105 105 #[u, v] (0, 0) _ h Tryz.underlying105 rfl (by kernel_rfl)
/-- What chunk answers: a sector and a text, and the sector is taken. -/
def ChunkG (w : World) (base : Nat) (k : Bk) (y : Bx) (n : Nat) (g : Pg) (T' : Tr) (v : Value) (c : Int) (e : Ending) (w' : World) : Prop :=
  e = .returned (.tuple #[v, .int .i64 c]) ∧ TxV w' base k y n g T' ∧ D5.Kp (footT y) w w'
set_option maxRecDepth 100000 in
set_option maxHeartbeats 4000000 in
theorem chunk_full {w : World} {base n : Nat} {k : Bk} {y : Bx} {g : Pg} {T : Tr} (h : TxV w base k y n g T) (hT : M6.Tab w) (hl : T.m.length ≤ 1024) (hk : ¬ M6.nextF T.m 0 false < T.m.length) (i : Int) :
    Calls Tryz.prog 60 #[.pointer (some ⟨y.x, 0, none⟩), .int .i64 i] w (ChunkG w base k y n g T (.agg #[.int .i64 0, .string ⟨#[]⟩]) 11) := by
  unfold ChunkG
  obtain ⟨c0, c1, c2, c3, c4⟩ := h.cells
  have hlt := h.blk.lt
  have H := Lib.hid h
  have HT := Lib.hid hT
  have e1 : M6.takeE T.m = 11 := if_neg hk
  have e2 : M6.lowF T.m = -1 := if_neg hk
  have e3 : M6.takeS T.m = T.m := if_neg hk
  have HK : ∀ W b1 b2, w.grownBy W none → Blk W w.heap.size 105 #[b1, b2] → Calls Tryz.prog 79 #[.pointer (some ⟨y.mb, 0, none⟩)] W (fun e w' => e = .returned (.tuple #[.int .i64 (-1), .int .i64 11]) ∧ TxV w' base k y n g T ∧ Blk w' w.heap.size 105 #[b1, b2] ∧ D5.Kp (footT y) w w') := by
    intro W b1 b2 gW hB
    have h1 := H.out.keep0 gW
    refine (M6.take_any y.mb T.m W h1.map (HT.out.keep0 gW) hl).mono ?_
    rintro e w' ⟨rfl, hm, gm⟩
    rw [e1, e2]
    rw [e3] at hm
    have := H.out.map.lt
    exact ⟨rfl, h1.setM gm hm, hB.keep gm (ne_some (by omega)), (D5.Kp.of0 gW).trans ((kp_one gm).mono (fun _ e => .inr (.inl e)))⟩
  have HK := Lib.hid HK
  have hltX := h.lt
  clear h hT e1 e2 e3 hk
  go_enter Tryz.func60, Tryz.ntmps60
  go_wp2_with (first
    | (go_at_call 79; (with_reducible refine (HK.out _ (.int .i64 0) (.string ⟨#[]⟩) (gb_alloc _ _ none) (Blk.mk _ _ _)).mono ?_); rintro e w1 ⟨rfl, h1, b1, k1⟩; have f0 := b1.free 0; have f1 := b1.free 1; have d0 : w1.cell? ⟨w.heap.size, 0, none⟩ = some (.int .i64 0) := b1.cell 0 rfl; have d1 : w1.cell? ⟨w.heap.size, 1, none⟩ = some (.string ⟨#[]⟩) := b1.cell 1 rfl)
    | fail)
  have gs := gb_trans (gb_set w1 w.heap.size 0 none (.int .i64 0)) (gb_set _ w.heap.size 1 none (.string ⟨#[]⟩))
  have b2 := (b1.set 0 (.int .i64 0)).set 1 (.string ⟨#[]⟩)
  refine bodyPost_ret (results_cell_tmp rfl _ _ w.heap.size _ _ rfl rfl (load_write b2)) rfl ⟨rfl, h1.past gs hltX (Nat.le_refl _), k1.step gs (fun j e => by cases e; exact .inr (Nat.le_refl _))⟩
set_option maxRecDepth 100000 in
set_option maxHeartbeats 4000000 in
theorem chunk_ok {w : World} {base n : Nat} {k : Bk} {y : Bx} {g : Pg} {T : Tr} (h : TxV w base k y n g T) (hT : M6.Tab w) (hl : T.m.length ≤ 1024) (hk : M6.nextF T.m 0 false < T.m.length) (i : Nat) (hi : i < 8) :
    Calls Tryz.prog 60 #[.pointer (some ⟨y.x, 0, none⟩), .int .i64 (i : Nat)] w (ChunkG w base k y n g { T with m := M6.takeS T.m } (.agg #[.int .i64 (M6.nextF T.m 0 false : Nat), .string (chunkBy T.t.P i)]) 0) := by
  unfold ChunkG
  obtain ⟨c0, c1, c2, c3, c4⟩ := h.cells
  have hlt := h.blk.lt
  have H := Lib.hid h
  have HT := Lib.hid hT
  have e1 : M6.takeE T.m = 0 := if_pos hk
  have e2 : M6.lowF T.m = (M6.nextF T.m 0 false : Nat) := if_pos hk
  obtain ⟨q, hq⟩ : ∃ q, M6.nextF T.m 0 false = q := ⟨_, rfl⟩
  rw [hq] at e2 hk ⊢
  have HK : ∀ W b1 b2, w.grownBy W none → Blk W w.heap.size 105 #[b1, b2] → Calls Tryz.prog 79 #[.pointer (some ⟨y.mb, 0, none⟩)] W (fun e w' => e = .returned (.tuple #[.int .i64 (q : Nat), .int .i64 0]) ∧ TxV w' base k y n g { T with m := M6.takeS T.m } ∧ Blk w' w.heap.size 105 #[b1, b2] ∧ D5.Kp (footT y) w w') := by
    intro W b1 b2 gW hB
    have h1 := H.out.keep0 gW
    refine (M6.take_any y.mb T.m W h1.map (HT.out.keep0 gW) hl).mono ?_
    rintro e w' ⟨rfl, hm, gm⟩
    rw [e1, e2]
    have := H.out.map.lt
    exact ⟨rfl, h1.setM gm hm, hB.keep gm (ne_some (by omega)), (D5.Kp.of0 gW).trans ((kp_one gm).mono (fun _ e => .inr (.inl e)))⟩
  have HK := Lib.hid HK
  have HC := Lib.hid (fun W (hW : TxV W base k y n g { T with m := M6.takeS T.m }) => T9.chunkT_any y.tb T.t (i : Nat) W hW.tab)
  unfold T9.ChunkGot at HC
  have hsz := T9.textB_size h.tab.fit.1 hi
  have HS := Lib.hid (fun W => C7.seal_any 255 (T9.textB T.t.P i) W)
  unfold C7.Sealed at HS
  have hse : C7.sealE 255 (T9.textB T.t.P i).data.toList = 0 := by
    unfold C7.sealE
    rw [if_neg (by omega), if_neg (by rw [Array.length_toList]; show ¬ 240 < (T9.textB T.t.P i).size; omega)]
  have hss : (⟨(C7.sealS 255 (T9.textB T.t.P i).data.toList).toArray⟩ : ByteArray) = chunkBy T.t.P i := by
    unfold C7.sealS
    rw [if_pos hse]; rfl
  rw [hse, hss] at HS
  obtain ⟨d, hd⟩ : ∃ d, chunkBy T.t.P i = d := ⟨_, rfl⟩
  obtain ⟨tx, htx⟩ : ∃ d, T9.textB T.t.P i = d := ⟨_, rfl⟩
  have htx2 : (⟨(T9.chunkF T.t.P (i : Nat)).toArray⟩ : ByteArray) = tx := htx
  rw [htx2] at HC
  rw [hd, htx] at HS
  rw [hd]
  have hltX := h.lt
  clear h hT e1 e2 hk hq hse hss hsz hd htx htx2
  go_enter Tryz.func60, Tryz.ntmps60
  go_wp2_with (first
    | (go_at_call 79; (with_reducible refine (HK.out _ (.int .i64 0) (.string ⟨#[]⟩) (gb_alloc _ _ none) (Blk.mk _ _ _)).mono ?_); rintro e w1 ⟨rfl, h1, b1, k1⟩; obtain ⟨z0, z1, z2, z3, z4⟩ := h1.cells; have h1 := Lib.hid h1; have b1 := Lib.hid b1; have k1 := Lib.hid k1)
    | (go_at_call 91; (with_reducible refine (HC.out _ h1.out).mono ?_); rintro e w2 ⟨rfl, g2⟩)
    | (go_at_call 78; (with_reducible refine (HS.out _).mono ?_); rintro e w3 ⟨rfl, g3⟩; have g4 := gb_trans g2 g3; have b3 := b1.out.keep0 g4; have f0 := b3.free 0; have f1 := b3.free 1; have d0 : w3.cell? ⟨w.heap.size, 0, none⟩ = some (.int .i64 0) := b3.cell 0 rfl; have d1 : w3.cell? ⟨w.heap.size, 1, none⟩ = some (.string ⟨#[]⟩) := b3.cell 1 rfl; have b3 := Lib.hid b3)
    | fail)
  have gs := gb_trans (gb_set w3 w.heap.size 0 none (.int .i64 (q : Nat))) (gb_set _ w.heap.size 1 none (.string d))
  have b2 := (b3.out.set 0 (.int .i64 (q : Nat))).set 1 (.string d)
  refine bodyPost_ret (results_cell_tmp rfl _ _ w.heap.size _ _ rfl rfl (load_write b2)) rfl ⟨rfl, (h1.out.keep0 g4).past gs hltX (Nat.le_refl _), (k1.out.trans (D5.Kp.of0 g4)).step gs (fun j e => by cases e; exact .inr (Nat.le_refl _))⟩
end Go.Proofs.YtliiooldlooagaaGreatDoor.J10

/-
  Which sectors chunks and pages use (placesOf), over this seat's translation; conditions: the table is there, no sector is used twice, and each is one of the disk's.
-/
namespace Go.Proofs.YtliiooldlooagaaGreatDoor.J10
open Go.RowKit Go.Maps
theorem eight_size2 : (Tryz.prog.info? 77).map (·.size) = some 8 := by kernel_rfl
theorem load_eight {W : World} {b : Nat} {t : TypeId} {C : Array Value} (h : Blk W b t C) (hC : C.size = 8) : (loadVar 77 ⟨b, 0, none⟩).run Tryz.prog W = .ok (.agg C) W :=
  run_loadVar_row W b t 77 C (0, 0) _ h Tryz.underlying77 rfl (by rw [eight_size2, hC])
theorem index_ints (ns : List Nat) (hl : ns.length = 8) (k : Nat) (hk : k < 8) (W : World) : (Instr.index 77 (.agg (intsC ns).toArray) (.int .i64 (k : Nat))).run Tryz.prog W = .ok (.int .i64 (ns.getD k 0 : Nat)) W := by
  have h := R8.index_eight ⟨0, 0, ns.map fun n : Nat => (n : Int)⟩ k hk (by simp [hl]) W
  have e1 : R8.eightC ⟨0, 0, ns.map fun n : Nat => (n : Int)⟩ = intsC ns := by unfold R8.eightC intsC; rw [List.map_map]; rfl
  have e2 : (ns.map fun n : Nat => (n : Int)).getD k 0 = ((ns.getD k 0 : Nat) : Int) := by
    rw [List.getD_eq_getElem?_getD, List.getElem?_map, List.getD_eq_getElem?_getD, List.getElem?_eq_getElem (by omega)]
    rfl
  rw [e1] at h
  rw [h]
  show Result.ok (Value.int .i64 ((ns.map fun n : Nat => (n : Int)).getD k 0)) W = _
  rw [e2]
/-- What is used so far. -/
def useTo (P : List Nat) (ns : List Nat) (j k : Nat) : List Nat := T9.secsF P ++ (([0, 1] : List Nat).take j ++ (ns.take k).filter (· != 0))
theorem use_step0 (P ns : List Nat) {j : Nat} (h : j < 2) : useTo P ns (j + 1) 0 = useTo P ns j 0 ++ [j] := by
  unfold useTo
  rcases j with _ | _ | j
  · simp
  · simp
  · omega
theorem use_no {P ns : List Nat} {k : Nat} (hk : k < ns.length) (h : ns.getD k 0 = 0) : useTo P ns 2 (k + 1) = useTo P ns 2 k := by
  unfold useTo
  rw [D5.take_one ns k (ns.getD k 0) (by rw [getD_lt hk]; exact List.getElem?_eq_getElem hk), List.filter_append, h]
  simp
theorem use_yes {P ns : List Nat} {k : Nat} (hk : k < ns.length) (h : ns.getD k 0 ≠ 0) : useTo P ns 2 (k + 1) = useTo P ns 2 k ++ [ns.getD k 0] := by
  unfold useTo
  rw [D5.take_one ns k (ns.getD k 0) (by rw [getD_lt hk]; exact List.getElem?_eq_getElem hk), List.filter_append]
  obtain ⟨x, hx⟩ : ∃ x, ns.getD k 0 = x := ⟨_, rfl⟩
  rw [hx] at h ⊢
  simp [h]
theorem use_length (P ns : List Nat) (j k : Nat) : (useTo P ns j k).length ≤ P.length + 2 + k := by
  unfold useTo T9.secsF
  rw [List.length_append, List.length_append, List.length_take]
  have h1 := List.length_filter_le (· != 0) P
  have h2 := List.length_filter_le (· != 0) (ns.take k)
  rw [List.length_take] at h2
  simp only [List.length_cons, List.length_nil]
  omega
def PlacesG (w : World) (a n : Nat) (L : List Nat) (e : Ending) (w' : World) : Prop :=
  ∃ b, e = .returned (.tuple #[.agg #[.pointer (some ⟨a, 0, none⟩), .pointer (some ⟨b, 0, none⟩)], .int .i64 0]) ∧ w.heap.size ≤ b ∧ M6.PM w' b (marks n L) ∧ w.grownBy w' none
set_option maxRecDepth 100000 in
set_option maxHeartbeats 4000000 in
theorem placesOf_any {w : World} {a n : Nat} {t : T9.TB} {ns L : List Nat} (ha : T9.PT w a t) (hns : ns.length = 8) (hL : useTo t.P ns 2 8 = L) (hd : L.Nodup) (hlt : ∀ x ∈ L, x < n) (hn1 : 1 ≤ n) (hn2 : n ≤ 1024) :
    Calls Tryz.prog 62 #[.int .i64 (n : Nat), .agg (intsC ns).toArray, .pointer (some ⟨a, 0, none⟩)] w (PlacesG w a n L) := by
  unfold PlacesG
  obtain ⟨i0, hi, hz0, hz1, hz2⟩ := info_parts T9.Tryz.infoInt
  have HA := Lib.hid ha
  have HS := Lib.hid (fun W (hW : T9.PT W a t) => T9.sectors_any a t W hW)
  unfold T9.NtsGot at HS
  have HI := Lib.hid (fun k hk => index_ints ns hns k hk)
  subst hL
  have HD := Lib.hid hd
  have HLt := Lib.hid hlt
  have hP := ha.fit.1
  have hll := use_length t.P ns 2 8
  rw [hP] at hll
  have hCs : (intsC ns).toArray.size = 8 := by unfold intsC; simp [hns]
  have he : T9.secsF t.P = useTo t.P ns 0 0 := by unfold useTo; simp
  have hlen0 := use_length t.P ns
  rw [hP] at hlen0
  have HLen := Lib.hid hlen0
  rw [he] at HS
  obtain ⟨C, hC⟩ : ∃ C, (intsC ns).toArray = C := ⟨_, rfl⟩
  rw [hC] at HI hCs ⊢
  clear ha hd hlt hC he hlen0
  go_enter Tryz.func62, Tryz.ntmps62
  go_wp2_with (first
    | (go_at_call 92; (with_reducible refine (HS.out _ (HA.out.keep0 (gb_trans (gb_alloc _ _ none) (gb_alloc _ _ none)))).mono ?_); rintro e w1 ⟨v, rfl, o1, g1⟩; rw [World.size_alloc, World.size_alloc] at o1; have bC := (Blk.mk w 77 C).keep0 (gb_trans (gb_alloc _ (.cells #[.pointer none, .pointer none] 71) none) g1); have bR := (Blk.mk (w.alloc (.cells C 77)) 71 #[.pointer none, .pointer none]).keep0 g1; rw [World.size_alloc] at bR; have gA := gb_trans (gb_trans (gb_alloc w (.cells C 77) none) (gb_alloc _ (.cells #[.pointer none, .pointer none] 71) none)) g1; clear g1; obtain ⟨ao, cap, rfl, _⟩ := Sl.of_owns o1; have o1 := Lib.hid o1; have bC := Lib.hid bC; have bR := Lib.hid bR; have gA := Lib.hid gA)
    | fail)
  go_loopw [8, 17] (fun v i wr => ∃ m : Nat, m ≤ 2 ∧ i = .int .i64 (m : Nat) ∧ wr.ownsRow (w.heap.size + 2) 3 1 v (useTo t.P ns m 0).length (intsC (useTo t.P ns m 0)) ∧ w.grownBy wr none ∧ Blk wr w.heap.size 77 C ∧ Blk wr (w.heap.size + 1) 71 #[.pointer none, .pointer none] ∧ w.heap.size + 2 ≤ wr.heap.size) (fun _ i _ => 2 - (intOf i).toNat)
  case atStart => exact ⟨0, by omega, rfl, o1.out, gA.out, bC.out, bR.out, by have := bR.out.lt; omega⟩
  case round =>
    obtain ⟨m, hm, rfl, own, hg, hC, hR, hsz⟩ := hrel
    obtain ⟨o3, cap3, rfl, _⟩ := Sl.of_owns own
    have hlen := HLen.out m 0
    by_cases hlt2 : m < 2
    · have HS1 := Lib.hid (use_step0 t.P ns hlt2)
      have HG := Lib.hid hg
      have HC := Lib.hid hC
      have HR := Lib.hid hR
      clear hg hC hR
      generalize useTo t.P ns m 0 = R at *
      go_wp2_with (at_builtin; go_must (refine wpList_append_own _ rfl _ _ 40 rfl (w.heap.size + 2) 3 i0 (.int .i64 0) 1 8 Tryz.underlying40 hi hz0 hz1 hz2 rfl (by decide) _ _ _ rfl (own.alloc _) ⟨wr.heap.size, 0, none⟩ 1 1 [.int .i64 (m : Nat)] rfl rfl (T9.cell1_new _ _ _) (T9.one_int _ _) (by unfold maxLen; omega) (by omega) (by simp; omega) ?_; intro v3 w3 own3 g3 _))
      have hnew : w3.ownsRow (w.heap.size + 2) 3 1 v3 (R ++ [m]).length (intsC (R ++ [m])) := owns_cast own3 (by simp) (T9.intsC_snoc R m).symm
      have HN := Lib.hid hnew
      have HGn := Lib.hid (gb_app HG.out own (by omega) g3)
      have HCn := Lib.hid (blk_app HC.out own (by omega) g3)
      have HRn := Lib.hid (blk_app HR.out own (by omega) g3)
      have hz3 : w.heap.size + 2 ≤ w3.heap.size := by have := g3.size; simp at this; omega
      clear own3 g3 own hnew
      go_roundw
      case rel => exact ⟨m + 1, by omega, by go_num, by rw [HS1.out]; exact HN.out, HGn.out, HCn.out, HRn.out, hz3⟩
      case measure => simp [intOf]; omega
    · obtain rfl : m = 2 := by omega
      have hl8 := load_eight hC hCs
      have HG := Lib.hid hg
      have HC := Lib.hid hC
      have HR := Lib.hid hR
      have HO := Lib.hid own
      clear hg hC hR own
      go_wp2_with (first
        | (refine M6.wpList_load_at rfl 77 (.tmp 4) rfl ⟨w.heap.size, 0, none⟩ rfl _ hl8 ?_)
        | fail)
      clear hl8
      go_loopw [8, 26] (fun v i wr => ∃ m : Nat, m ≤ 8 ∧ i = .int .i64 (m : Nat) ∧ wr.ownsRow (w.heap.size + 2) 3 1 v (useTo t.P ns 2 m).length (intsC (useTo t.P ns 2 m)) ∧ w.grownBy wr none ∧ Blk wr (w.heap.size + 1) 71 #[.pointer none, .pointer none] ∧ w.heap.size + 2 ≤ wr.heap.size) (fun _ i _ => 8 - (intOf i).toNat)
      case atStart => exact ⟨0, by omega, rfl, HO.out, HG.out, HR.out, hsz⟩
      case round =>
        clear HG HR HO HC
        obtain ⟨m, hm, rfl, own, hg, hR, hsz⟩ := hrel
        obtain ⟨o3, cap3, rfl, _⟩ := Sl.of_owns own
        have hlen := HLen.out 2 m
        by_cases hlt8 : m < 8
        · have hix := HI.out m hlt8 wr
          have hlm : m < ns.length := by omega
          by_cases hz : ns.getD m 0 = 0
          · have HS1 := Lib.hid (use_no (P := t.P) hlm hz)
            rw [hz] at hix
            have HG := Lib.hid hg
            have HR := Lib.hid hR
            have HO := Lib.hid own
            clear hg hR own hz
            generalize useTo t.P ns 2 m = R at *
            go_wp2
            go_roundw
            case rel => exact ⟨m + 1, by omega, by go_num, by rw [HS1.out]; exact HO.out, HG.out, HR.out, hsz⟩
            case measure => simp [intOf]; omega
          · have HS1 := Lib.hid (use_yes (P := t.P) hlm hz)
            obtain ⟨z, hzz⟩ : ∃ z, ns.getD m 0 = z := ⟨_, rfl⟩
            rw [hzz] at hix hz HS1
            have hne : (((z : Nat) : Int) != 0) = true := by simp [hz]
            have HG := Lib.hid hg
            have HR := Lib.hid hR
            clear hg hR hzz
            generalize useTo t.P ns 2 m = R at *
            go_wp2_with (at_builtin; go_must (refine wpList_append_own _ rfl _ _ 40 rfl (w.heap.size + 2) 3 i0 (.int .i64 0) 1 8 Tryz.underlying40 hi hz0 hz1 hz2 rfl (by decide) _ _ _ rfl (own.alloc _) ⟨wr.heap.size, 0, none⟩ 1 1 [.int .i64 (z : Nat)] rfl rfl (T9.cell1_new _ _ _) (T9.one_int _ _) (by unfold maxLen; omega) (by omega) (by simp; omega) ?_; intro v3 w3 own3 g3 _))
            have hnew : w3.ownsRow (w.heap.size + 2) 3 1 v3 (R ++ [z]).length (intsC (R ++ [z])) := owns_cast own3 (by simp) (T9.intsC_snoc R z).symm
            have HN := Lib.hid hnew
            have HGn := Lib.hid (gb_app HG.out own (by omega) g3)
            have HRn := Lib.hid (blk_app HR.out own (by omega) g3)
            have hz3 : w.heap.size + 2 ≤ w3.heap.size := by have := g3.size; simp at this; omega
            clear own3 g3 own hnew
            go_roundw
            case rel => exact ⟨m + 1, by omega, by go_num, by rw [HS1.out]; exact HN.out, HGn.out, HRn.out, hz3⟩
            case measure => simp [intOf]; omega
        · obtain rfl : m = 8 := by omega
          have HG := Lib.hid hg
          have HR := Lib.hid hR
          have HO := Lib.hid own
          have hll' := hll
          clear hg hR own hlen
          have HNew := Lib.hid (M6.new_yes n wr hn1 hn2)
          go_wp2_with (first
            | (go_at_call 93; (with_reducible refine HNew.out.mono ?_); rintro e w4 ⟨rfl, hPM, g4⟩)
            | fail)
          have h0 : M6.PM w4 wr.heap.size (marks n []) := by rw [← marks_nil]; exact hPM
          have o4 := D5.own_keep0' HO.out g4
          have gw4 := gb_trans HG.out g4
          have r4 := HR.out.keep0 g4
          have hb4 := HG.out.size
          have H0 := Lib.hid h0
          have O4 := Lib.hid o4
          have G4 := Lib.hid gw4
          have R4 := Lib.hid r4
          obtain ⟨b, hb⟩ : ∃ b, wr.heap.size = b := ⟨_, rfl⟩
          rw [hb] at H0 hsz hb4 ⊢
          clear h0 o4 gw4 r4 g4 hPM HG HR HO HNew hb
          generalize hL8 : useTo t.P ns 2 8 = L at *
          have HL8 := Lib.hid hL8
          clear hL8
          go_loopw [40] (fun i wr => ∃ m : Nat, m ≤ L.length ∧ i = .int .i64 (m : Nat) ∧ wr.ownsRow (w.heap.size + 2) 3 1 (.slice o3 L.length cap3) L.length (intsC L) ∧ w.grownBy wr none ∧ Blk wr (w.heap.size + 1) 71 #[.pointer none, .pointer none] ∧ M6.PM wr b (marks n (L.take m))) (fun i _ => L.length - (intOf i).toNat)
          case atStart => exact ⟨0, by omega, rfl, O4.out, G4.out, R4.out, by rw [List.take_zero]; exact H0.out⟩
          case round =>
            clear O4 G4 R4 H0
            obtain ⟨m, hm, rfl, own, hg, hR, hPM⟩ := hrel
            by_cases hltL : m < L.length
            · obtain ⟨q, hq⟩ : ∃ q, L[m]? = some q := ⟨_, List.getElem?_eq_getElem hltL⟩
              obtain ⟨x, cap', hx0, _, hx⟩ := (Sl.of_owns own).some (by omega)
              injection hx0 with hx0 _ hcp
              subst hx0
              subst hcp
              have d0 := hx m (.int .i64 (q : Nat)) (by unfold intsC; rw [List.getElem?_map, hq]; rfl)
              have hqn : q < n := HLt.out q (List.mem_of_getElem? hq)
              have hnot : q ∉ L.take m := by
                intro hmem
                have h1 := HD.out
                rw [← List.take_append_drop m L, List.nodup_append] at h1
                refine h1.2.2 q hmem q ?_ rfl
                rw [List.mem_iff_getElem?]
                exact ⟨0, by rw [List.getElem?_drop, Nat.add_zero]; exact hq⟩
              have hu := marks_use n (L.take m) q hqn hnot
              have HUs := M6.use_any b (marks n (L.take m)) (q : Nat) wr hPM (by rw [marks_length]; exact hn2)
              rw [hu.1, hu.2, ← D5.take_one L m q hq] at HUs
              have HUs := Lib.hid HUs
              have hne : some b ≠ (Value.slice (some x) L.length cap3).ownBlock := Ne.symm (D5.blk_row hPM own (by decide))
              have HO := Lib.hid own
              have HG := Lib.hid hg
              have HR := Lib.hid hR
              have h0m : (0 : Int) ≤ (m : Int) := by omega
              have h1m : (m : Int) < (L.length : Int) := by omega
              have hnR : b ≠ w.heap.size + 1 := blk_ne hPM hR (by decide)
              clear own hg hR hPM hx hq hqn hnot hu
              go_wp2_with (first
                | (go_at_call 94; (with_reducible refine HUs.out.mono ?_); rintro e w5 ⟨rfl, hP5, g5⟩)
                | fail)
              have O5 := Lib.hid (HO.out.kept g5 (Or.inr (Ne.symm hne)))
              have G5 := Lib.hid (gb_step HG.out g5 (by omega))
              have R5 := Lib.hid (HR.out.keep g5 (ne_some (fun e => hnR e.symm)))
              have P5 := Lib.hid hP5
              clear hP5 g5 HUs HO HG HR
              go_roundw
              case rel => exact ⟨m + 1, by omega, by go_num, O5.out, G5.out, R5.out, P5.out⟩
              case measure => simp [intOf]; omega
            · obtain rfl : m = L.length := by omega
              rw [List.take_length] at hPM
              have hbR : b ≠ w.heap.size + 1 := blk_ne hPM hR (by decide)
              have f0 := hR.free 0
              have f1 := hR.free 1
              have e0 : wr.cell? ⟨w.heap.size + 1, 0, none⟩ = some (.pointer none) := hR.cell 0 rfl
              have e1 : wr.cell? ⟨w.heap.size + 1, 1, none⟩ = some (.pointer none) := hR.cell 1 rfl
              have HG := Lib.hid hg
              have HR := Lib.hid hR
              have HP := Lib.hid hPM
              clear hg hR hPM own
              go_wp2_with fail
              have gs := gb_trans (gb_set wr (w.heap.size + 1) 0 none (.pointer (some ⟨a, 0, none⟩))) (gb_set _ (w.heap.size + 1) 1 none (.pointer (some ⟨b, 0, none⟩)))
              have b2 := (HR.out.set 0 (.pointer (some ⟨a, 0, none⟩))).set 1 (.pointer (some ⟨b, 0, none⟩))
              refine bodyPost_ret (results_cell_tmp rfl _ _ (w.heap.size + 1) _ _ rfl rfl (load_places b2 rfl rfl)) rfl ⟨b, rfl, by omega, by rw [HL8.out]; exact HP.out.keep gs (ne_some hbR), gb_step HG.out gs (by omega)⟩
end Go.Proofs.YtliiooldlooagaaGreatDoor.J10

/-
  What a commit is (plan), over this seat's translation; conditions: the transaction lies as Jf tells, its chunks' sectors are there, and what is used then is used once.
-/
namespace Go.Proofs.YtliiooldlooagaaGreatDoor.J10
open Go.RowKit Go.Maps
theorem root_info10 : (Tryz.prog.info? 79).map (·.size) = some 10 := by kernel_rfl
/-- The root, out of a pager. -/
theorem PgV.rangeR {w : World} {base : Nat} {k : Bk} {g : Pg} (h : PgV w base k g) : w.rangeAt k.p 1 (R8.rootC g.r) := by
  intro j v hj
  have hb := h.blk
  have hl := R8.rootC_length g.r h.len
  have hjl := (List.getElem?_eq_some_iff.1 hj).1
  refine hb.cell (1 + j) ?_
  unfold pgL
  rw [List.getElem?_toArray, Nat.add_comm 1 j, List.getElem?_cons_succ, List.getElem?_append_left (by omega)]
  exact hj
theorem range_keep {w w' : World} {b o : Nat} {cs : List Value} (h : w.rangeAt b o cs) (g : w.grownBy w' none) : w'.rangeAt b o cs := fun j v hj => g.cell (h j v hj) (by simp)
theorem load_root {w : World} {b o : Nat} {r : R8.Rt} (h : w.rangeAt b o (R8.rootC r)) (hl : r.cs.length = 8) : (loadVar 79 ⟨b, o, none⟩).run Tryz.prog w = .ok (R8.RV r) w :=
  run_loadVar_mid w b o 79 (R8.rootC r) _ h Tryz.underlying79 rfl (by rw [root_info10, R8.rootC_length r hl])
theorem tab_kp {F : Nat → Prop} {w w' : World} (h : M6.Tab w) (k : D5.Kp F w w') (hF : ∀ i, F i → 4 ≤ i) : M6.Tab w' := by
  intro j hj
  have h1 := h j hj
  have hlt := World.block_lt_of_cell? w _ h1
  unfold World.cell? at h1 ⊢
  rw [k.block _ hlt (fun hf => absurd (hF _ hf) (by show ¬ 4 ≤ 2; decide))]
  exact h1
theorem wpl_value {P : Program} {ops : Array Oper} {rest : List Oper} {o : Oper} {a : Act} {w : World} {Q : Exit → Act → World → Prop} (hg : o.guard = none) (v : Value) (h : (execOp a.eval o).run P w = .ok (.value v) w)
    (hk : wpList P ops Q rest (a.put o.dst v) w) : wpList P ops Q (o :: rest) a w :=
  wpList_plain hg fun K hK => by
    unfold Oper.wp
    rw [h]
    exact hK _ _ hk
theorem exec_built {P : Program} {o : Oper} {a : Act} {w : World} (t : TypeId) (parts : Array (Nat × Operand)) (ho : o.op = .build t parts) (cells : Array Value)
    (h : P.built t (parts.map fun (i, x) => (i, a.eval x)).toList = some cells) : (execOp a.eval o).run P w = .ok (.value (.agg cells)) w := by
  unfold execOp
  simp only [ho, Sem.run_bind, run_build w t _ cells h, Result.andThen_ok]
  rfl
theorem wpl_build4 {P : Program} {ops : Array Oper} {rest : List Oper} {o : Oper} {a : Act} {w : World} {Q : Exit → Act → World → Prop} (hg : o.guard = none) (t : TypeId) (x0 x1 x2 x3 : Operand) (v0 v1 v2 v3 : Value) (cells : Array Value)
    (ho : o.op = .build t #[(0, x0), (1, x1), (2, x2), (3, x3)]) (h0 : a.eval x0 = v0) (h1 : a.eval x1 = v1) (h2 : a.eval x2 = v2) (h3 : a.eval x3 = v3) (hb : P.built t [(0, v0), (1, v1), (2, v2), (3, v3)] = some cells)
    (hk : wpList P ops Q rest (a.put o.dst (.agg cells)) w) : wpList P ops Q (o :: rest) a w :=
  wpl_value hg (.agg cells) (exec_built t _ ho cells (by simp only [List.map_toArray, List.map_cons, List.map_nil]; rw [h0, h1, h2, h3]; exact hb)) hk
theorem root_setN {W : World} {b : Nat} {r : R8.Rt} (h : R8.RB W b r) (z : Int) : R8.RB (W.setCell ⟨b, 1, none⟩ (.int .i64 z)) b ⟨r.e, z, r.cs⟩ := Blk.set h 1 (.int .i64 z)
theorem root_setC {W : World} {b : Nat} {r : R8.Rt} (h : R8.RB W b r) (i : Nat) (z : Int) : R8.RB (W.setCell ⟨b, 2 + i, none⟩ (.int .i64 z)) b ⟨r.e, r.n, r.cs.set i z⟩ := by
  have := Blk.set h (2 + i) (.int .i64 z)
  have e : (R8.rootC r).toArray.setIfInBounds (2 + i) (.int .i64 z) = (R8.rootC ⟨r.e, r.n, r.cs.set i z⟩).toArray := by
    unfold R8.rootC
    rw [List.setIfInBounds_toArray, Nat.add_comm 2 i, List.set_cons_succ, List.set_cons_succ, List.map_set]
  rwa [e] at this
theorem built_commit (ao : Option Addr) (len cap : Nat) (r : R8.Rt) (hr : r.cs.length = 8) (wh : Int) (a b : Option Addr) : Tryz.prog.built 81 [(0, .slice ao len cap), (1, R8.RV r), (2, .int .i64 wh), (3, .agg #[.pointer a, .pointer b])] = some (Value.slice ao len cap :: (R8.rootC r ++ [.int .i64 wh, .pointer a, .pointer b])).toArray := by
  obtain ⟨e, n, cs⟩ := r
  obtain ⟨c0, c1, c2, c3, c4, c5, c6, c7, rfl⟩ := eight hr
  kernel_rfl
theorem rootC_at (e N : Nat) (cs : List Int) (q : Nat) (hq : q < cs.length) : (R8.rootC ⟨e, (N : Nat), cs.set q 0⟩).toArray[2 + q]? = some (.int .i64 0) := by
  unfold R8.rootC
  rw [List.getElem?_toArray, Nat.add_comm 2 q, List.getElem?_cons_succ, List.getElem?_cons_succ, List.getElem?_map, List.getElem?_set, if_pos rfl, if_pos hq]
  rfl
/-- A commit's zero. -/
def zeroCm : Array Value := #[.slice none 0 0, .int .u64 0, .int .i64 0, .int .i64 0, .int .i64 0, .int .i64 0, .int .i64 0, .int .i64 0, .int .i64 0, .int .i64 0, .int .i64 0, .int .i64 0, .pointer none, .pointer none]
theorem cm_info14 : (Tryz.prog.info? 81).map (·.size) = some 14 := by kernel_rfl
theorem cm_info : (Tryz.prog.info? 81).map (·.size) = some zeroCm.size := by rw [cm_info14]; rfl
theorem cm_one : zeroCm.all (·.oneCell') = true := by unfold zeroCm; simp [Value.oneCell']
/-- A commit's value. -/
def cmL (v : Value) (r : R8.Rt) (wh : Int) (tb mb : Nat) : List Value := v :: (R8.rootC r ++ [.int .i64 wh, pp tb, pp mb])
theorem load_cm {w : World} {b : Nat} {C : Array Value} (h : Blk w b 81 C) (hC : C.size = 14) : (loadVar 81 ⟨b, 0, none⟩).run Tryz.prog w = .ok (.agg C) w :=
  run_loadVar_row w b 81 81 C (0, 0) _ h Tryz.underlying81 rfl (by rw [cm_info14, hC])
theorem cmL_length (v : Value) (r : R8.Rt) (hr : r.cs.length = 8) (wh : Int) (tb mb : Nat) : (cmL v r wh tb mb).length = 14 := by
  unfold cmL
  rw [List.length_cons, List.length_append, R8.rootC_length r hr]; rfl
theorem cmL_one (ao : Option Addr) (len cap : Nat) (r : R8.Rt) (wh : Int) (tb mb : Nat) : (cmL (.slice ao len cap) r wh tb mb).toArray.all (·.oneCell') = true := by
  rw [Array.all_eq_true_iff_forall_mem]
  intro v hv
  unfold cmL R8.rootC pp at hv
  simp only [List.mem_toArray, List.mem_cons, List.mem_append, List.mem_map, List.not_mem_nil, or_false] at hv
  rcases hv with rfl | (rfl | rfl | ⟨z, _, rfl⟩) | rfl | rfl | rfl <;> rfl
theorem cs_ints {cs : List Int} (hl : cs.length = 8) (h : ∀ i, i < 8 → 0 ≤ cs.getD i 0) : cs.map (Value.int .i64) = intsC (cs.map Int.toNat) := by
  unfold intsC
  rw [List.map_map]
  apply List.map_congr_left
  intro z hz
  obtain ⟨i, hi, e⟩ := List.getElem_of_mem hz
  have := h i (by omega)
  rw [List.getD_eq_getElem?_getD, List.getElem?_eq_getElem hi, e] at this
  have h0 : 0 ≤ z := this
  show Value.int .i64 z = Value.int .i64 ((z.toNat : Nat) : Int)
  rw [Int.toNat_of_nonneg h0]
theorem use_all {cs : List Int} (hl : cs.length = 8) (P : List Nat) : useTo P (cs.map Int.toNat) 2 8 = usedL cs P := by
  unfold useTo usedL chunkL
  rw [List.take_of_length_le (l := cs.map Int.toNat) (by rw [List.length_map]; omega)]
  rfl
theorem load_chunks {W : World} {b : Nat} {r : R8.Rt} (h : R8.RB W b r) (hl : r.cs.length = 8) : (loadVar 77 ⟨b, 2, none⟩).run Tryz.prog W = .ok (.agg (r.cs.map (Value.int .i64)).toArray) W :=
  run_loadVar_mid W b 2 77 (R8.eightC r) _ (R8.rb_range h hl) Tryz.underlying77 rfl (R8.eight_info r hl)
theorem size_setRow' (w : World) (b : Nat) (cs : Array Value) : (w.setRow b cs).heap.size = w.heap.size := by simp [World.setRow]
def PlanG (w : World) (base : Nat) (k : Bk) (y : Bx) (n : Nat) (g : Pg) (T : Tr) (s : PlanS) (e : Ending) (w' : World) : Prop :=
  ∃ v lo mb, e = .returned (.tuple #[.agg (cmL v (newR g.r g.d.secs.length s.cs) (R8.nextW g.wh) y.tb mb).toArray, .int .i64 0]) ∧ w.heap.size ≤ lo ∧ lo ≤ w'.heap.size ∧
    w'.ownsRow lo 105 2 v (wrF T.t.P T.X ++ s.ws).length (D5.wrC (wrF T.t.P T.X ++ s.ws)) ∧ w.heap.size ≤ mb ∧ M6.PM w' mb (marks g.d.secs.length (usedL s.cs T.t.P)) ∧
    TxV w' base k y n g ⟨T9.cleanF T.t, s.M, T.X⟩ ∧ D5.Kp (footT y) w w'
def PlanF (w : World) (base : Nat) (k : Bk) (y : Bx) (n : Nat) (g : Pg) (T : Tr) (e : Ending) (w' : World) : Prop :=
  ∃ M, e = .returned (.tuple #[.agg zeroCm, .int .i64 11]) ∧ TxV w' base k y n g ⟨T.t, M, T.X⟩ ∧ D5.Kp (footT y) w w'
/-- What a plan that comes to its end asks. -/
def PlanOk (N : Nat) (P : List Nat) (s : PlanS) : Prop := s.cs.length = 8 ∧ (∀ i, i < 8 → 0 ≤ s.cs.getD i 0) ∧ (usedL s.cs P).Nodup ∧ ∀ x ∈ usedL s.cs P, x < N
set_option maxRecDepth 100000 in
set_option maxHeartbeats 8000000 in
theorem plan_any {w : World} {base n : Nat} {k : Bk} {y : Bx} {g : Pg} {T : Tr} (h : TxV w base k y n g T) (h5 : 4 ≤ base) (hT : M6.Tab w) (hF : R8.Fit g.r) (hl : T.m.length ≤ 1024) (hN1 : 1 ≤ g.d.secs.length) (hN2 : g.d.secs.length ≤ 1024) (hgood : ∀ s, planTo T.t.P ⟨g.r.cs, T.m, []⟩ (T9.dirtyF T.t.D) = some s → PlanOk g.d.secs.length T.t.P s) :
    Calls Tryz.prog 32 #[.pointer (some ⟨y.x, 0, none⟩)] w fun e w' => (∃ s, planTo T.t.P ⟨g.r.cs, T.m, []⟩ (T9.dirtyF T.t.D) = some s ∧ PlanG w base k y n g T s e w') ∨ (planTo T.t.P ⟨g.r.cs, T.m, []⟩ (T9.dirtyF T.t.D) = none ∧ PlanF w base k y n g T e w') := by
  unfold PlanG PlanF
  obtain ⟨c0, c1, c2, c3, c4⟩ := h.cells
  have hlt := h.blk.lt
  have H := Lib.hid h
  have HT := Lib.hid hT
  have HF := Lib.hid hF
  have HO := Lib.hid hgood
  have hltX := h.lt
  clear h hT hF hgood
  go_enter Tryz.func32, Tryz.ntmps32
  go_wp2_with fail
  refine wp_letter (fun u => Blk u w.heap.size 81 zeroCm ∧ w.grownBy u none) ⟨Blk.mk _ _ _, gb_alloc _ _ _⟩ ?_
  rintro u ⟨b2, g0⟩
  have gd := gb_trans g0 (gb_drew u none)
  have HU := H.out.keep0 gd
  have hb2 := b2.keep0 (gb_drew u none)
  have hNx := fun W => R8.next_any g.r g.wh W HF.out
  unfold R8.NextGot at hNx
  rename_i K hK
  suffices key : ∀ (b5 : Nat) (W : World), R8.RB W b5 (R8.nextR g.r) → w.heap.size < b5 → Blk W w.heap.size 81 zeroCm → w.grownBy W none → K ⟨#[.pointer (some ⟨y.x, 0, none⟩), undef, .pointer (some ⟨w.heap.size, 0, none⟩), .int .i64 0, .pointer (some ⟨k.p, 0, none⟩), .pointer (some ⟨b5, 0, none⟩), .int .i64 (R8.nextW g.wh), undef, undef, undef, undef, undef, undef, undef, .pointer (some ⟨y.x, 0, none⟩), .pointer (some ⟨y.x, 0, none⟩), .pointer (some ⟨y.x, 0, none⟩), .pointer (some ⟨k.p, 0, none⟩), .tuple #[R8.RV (R8.nextR g.r), .int .i64 (R8.nextW g.wh)], .pointer (some ⟨k.p, 0, none⟩), .pointer (some ⟨k.p, 0, none⟩), .pointer (some ⟨k.p, 1, none⟩), R8.RV g.r, .pointer (some ⟨k.p, 0, none⟩), .pointer (some ⟨k.p, 0, none⟩), .pointer (some ⟨k.p, 11, none⟩), .int .i64 g.wh, .tuple #[R8.RV (R8.nextR g.r), .int .i64 (R8.nextW g.wh)], R8.RV (R8.nextR g.r), .int .i64 (R8.nextW g.wh), undef, undef, undef, undef, undef, undef, undef, undef, undef, undef, undef, undef, undef, undef, undef, undef, undef, undef, undef, undef, undef, undef, undef, undef, undef, undef, undef, undef, undef, undef, undef, undef, undef, undef, undef, undef, undef, undef, undef, undef, undef, undef, undef, undef, undef, undef, undef, undef, undef, undef, undef, undef, undef, undef, undef, undef, undef, undef, undef, undef, undef, undef, undef, undef, undef, undef, undef, undef, undef, undef, undef, undef, undef, undef], []⟩ W by
    have c0u := HU.pg.cells.1
    have c11u := HU.pg.cells.2.2.1
    have hRu := HU.pg.rangeR
    have hlen := HF.out.1
    have h0len : R8.zeroR.cs.length = 8 := rfl
    have hnlen : (R8.nextR g.r).cs.length = 8 := hlen
    have hgs := gd.size
    have hub := hb2.lt
    clear hNx
    have hNx := Lib.hid (fun W => R8.next_any g.r g.wh W HF.out)
    unfold R8.NextGot at hNx
    refine wp_region_noPanic ?_
    refine wp_region_held_drew (S := fun w' => u.drew.grownBy w' none) (by kernel_rfl) (gb_refl _ _) (fun hHeld => ?_)
    generalize u.drew = u0 at *
    refine wpAnyH_take (i := 0) (v := ?_) (List.getElem?_toArray.trans rfl) (by kernel_rfl) (by kernel_rfl) (by kernel_rfl) (fun _ _ _ h => h) (Or.inl ⟨by rfl, ?_⟩) hHeld ?_
    rotate_left
    · intro w' hSw; have e0 := hSw.cell c0u (by simp); have e11 := hSw.cell c11u (by simp); go_simp; try with_reducible rfl
    try simp only [Act.put, List.setIfInBounds_toArray, List.set_cons_zero, List.set_cons_succ]
    refine wpAnyH_take (i := 1) (v := ?_) (List.getElem?_toArray.trans rfl) (by kernel_rfl) (by kernel_rfl) (by kernel_rfl) (fun _ _ _ h => h) (Or.inl ⟨by rfl, ?_⟩) hHeld ?_
    rotate_left
    · intro w' hSw; have e0 := hSw.cell c0u (by simp); have e11 := hSw.cell c11u (by simp); go_simp; try with_reducible rfl
    try simp only [Act.put, List.setIfInBounds_toArray, List.set_cons_zero, List.set_cons_succ]
    refine wpAnyH_take (i := 2) (v := ?_) (List.getElem?_toArray.trans rfl) (by kernel_rfl) (by kernel_rfl) (by kernel_rfl) (fun _ _ _ h => h) (Or.inl ⟨by rfl, ?_⟩) hHeld ?_
    rotate_left
    · intro w' hSw; have e0 := hSw.cell c0u (by simp); have e11 := hSw.cell c11u (by simp); go_simp; try with_reducible rfl
    try simp only [Act.put, List.setIfInBounds_toArray, List.set_cons_zero, List.set_cons_succ]
    refine wpAnyH_take (i := 3) (v := R8.RV g.r) (List.getElem?_toArray.trans rfl) (by kernel_rfl) (by kernel_rfl) (by kernel_rfl) (fun _ _ _ h => h) (Or.inl ⟨by rfl, ?_⟩) hHeld ?_
    · intro w' hSw; have e0 := hSw.cell c0u (by simp); have e11 := hSw.cell c11u (by simp); exact T9.exec_load _ _ rfl ⟨k.p, 1, none⟩ rfl _ (load_root (range_keep hRu hSw) hlen)
    try simp only [Act.put, List.setIfInBounds_toArray, List.set_cons_zero, List.set_cons_succ]
    refine wpAnyH_take (i := 4) (v := ?_) (List.getElem?_toArray.trans rfl) (by kernel_rfl) (by kernel_rfl) (by kernel_rfl) (fun _ _ _ h => h) (Or.inl ⟨by rfl, ?_⟩) hHeld ?_
    rotate_left
    · intro w' hSw; have e0 := hSw.cell c0u (by simp); have e11 := hSw.cell c11u (by simp); go_simp; try with_reducible rfl
    try simp only [Act.put, List.setIfInBounds_toArray, List.set_cons_zero, List.set_cons_succ]
    refine wpAnyH_take (i := 5) (v := ?_) (List.getElem?_toArray.trans rfl) (by kernel_rfl) (by kernel_rfl) (by kernel_rfl) (fun _ _ _ h => h) (Or.inl ⟨by rfl, ?_⟩) hHeld ?_
    rotate_left
    · intro w' hSw; have e0 := hSw.cell c0u (by simp); have e11 := hSw.cell c11u (by simp); go_simp; try with_reducible rfl
    try simp only [Act.put, List.setIfInBounds_toArray, List.set_cons_zero, List.set_cons_succ]
    refine wpAnyH_take (i := 6) (v := ?_) (List.getElem?_toArray.trans rfl) (by kernel_rfl) (by kernel_rfl) (by kernel_rfl) (fun _ _ _ h => h) (Or.inl ⟨by rfl, ?_⟩) hHeld ?_
    rotate_left
    · intro w' hSw; have e0 := hSw.cell c0u (by simp); have e11 := hSw.cell c11u (by simp); go_simp; try with_reducible rfl
    try simp only [Act.put, List.setIfInBounds_toArray, List.set_cons_zero, List.set_cons_succ]
    refine wpAnyH_take (i := 7) (v := ?_) (List.getElem?_toArray.trans rfl) (by kernel_rfl) (by kernel_rfl) (by kernel_rfl) (fun _ _ _ h => h) (Or.inl ⟨by rfl, ?_⟩) hHeld ?_
    rotate_left
    · intro w' hSw; have e0 := hSw.cell c0u (by simp); have e11 := hSw.cell c11u (by simp); go_simp; try with_reducible rfl
    try simp only [Act.put, List.setIfInBounds_toArray, List.set_cons_zero, List.set_cons_succ]
    refine wpAnyH_ready (rs := [8, 12]) (by kernel_rfl) (by simp) ?_
    refine AllReadyH.cons (List.getElem?_toArray.trans rfl) (fun K hK => ?_) (AllReadyH.cons (List.getElem?_toArray.trans rfl) (fun K hK => ?_) AllReadyH.nil)
    · go_simp
      go_at_call 56
      (with_reducible refine (hNx.out _).mono ?_)
      rintro e u1 ⟨rfl, g1⟩
      refine hK.out _ _ g1 (fun hHeld => ?_)
      clear hK K
      try simp only [Act.put, List.setIfInBounds_toArray, List.set_cons_zero, List.set_cons_succ]
      have hBx : R8.RB (u1.alloc (.cells #[.int .u64 0, .int .i64 0, .int .i64 0, .int .i64 0, .int .i64 0, .int .i64 0, .int .i64 0, .int .i64 0, .int .i64 0, .int .i64 0] 79)) u1.heap.size R8.zeroR := Blk.mk _ _ _
      have gA := gb_alloc u1 (.cells #[.int .u64 0, .int .i64 0, .int .i64 0, .int .i64 0, .int .i64 0, .int .i64 0, .int .i64 0, .int .i64 0, .int .i64 0, .int .i64 0] 79) none
      have hz1 := g1.size
      refine wpAnyH_take (i := 9) (v := ?_) (List.getElem?_toArray.trans rfl) (by kernel_rfl) (by kernel_rfl) (by kernel_rfl) (fun _ _ _ h => h) (Or.inl ⟨by rfl, ?_⟩) hHeld ?_
      rotate_left
      · intro w' hSw; go_simp; try with_reducible rfl
      try simp only [Act.put, List.setIfInBounds_toArray, List.set_cons_zero, List.set_cons_succ]
      refine wpAnyH_take (i := 10) (v := ?_) (List.getElem?_toArray.trans rfl) (by kernel_rfl) (by kernel_rfl) (by kernel_rfl) (fun _ _ _ h => h) (Or.inl ⟨by rfl, ?_⟩) hHeld ?_
      rotate_left
      · intro w' hSw; go_simp; try with_reducible rfl
      try simp only [Act.put, List.setIfInBounds_toArray, List.set_cons_zero, List.set_cons_succ]
      refine wpAnyH_take (i := 11) (v := ?_) (List.getElem?_toArray.trans rfl) (by kernel_rfl) (by kernel_rfl) (by kernel_rfl) (fun _ _ _ h => h) (Or.inl ⟨by rfl, ?_⟩) hHeld ?_
      rotate_left
      · intro w' hSw; go_simp; try with_reducible rfl
      try simp only [Act.put, List.setIfInBounds_toArray, List.set_cons_zero, List.set_cons_succ]
      refine wpAnyH_ready (rs := [12]) (by kernel_rfl) (by simp) ?_
      refine AllReadyH.cons (List.getElem?_toArray.trans rfl) (fun K hK => ?_) AllReadyH.nil
      go_simp
      refine hK.out _ _ (gb_trans g1 gA) (fun hHeld => ?_)
      clear hK K
      try simp only [Act.put, List.setIfInBounds_toArray, List.set_cons_zero, List.set_cons_succ]
      refine wpAnyH_ready (rs := [13]) (by kernel_rfl) (by simp) ?_
      refine AllReadyH.cons (List.getElem?_toArray.trans rfl) (fun K hK => ?_) AllReadyH.nil
      with_reducible refine R8.stR 5 28 u1.heap.size R8.zeroR (R8.nextR g.r) h0len hnlen hBx ?_ ?_ ?_
      rfl
      rfl
      refine hK.out _ _ (gb_step (gb_trans g1 gA) (gb_setRow' _ _ _) hz1) (fun hHeld => ?_)
      clear hK K
      try simp only [Act.put, List.setIfInBounds_toArray, List.set_cons_zero, List.set_cons_succ]
      refine wpAnyH_take (i := 14) (v := ?_) (List.getElem?_toArray.trans rfl) (by kernel_rfl) (by kernel_rfl) (by kernel_rfl) (fun _ _ _ h => h) (Or.inl ⟨by rfl, ?_⟩) hHeld ?_
      rotate_left
      · intro w' hSw; go_simp; try with_reducible rfl
      try simp only [Act.put, List.setIfInBounds_toArray, List.set_cons_zero, List.set_cons_succ]
      refine wpAnyH_done (by kernel_rfl) ?_ _
      refine NoPanic.normal ?_
      have gS := gb_setRow' (u1.alloc (.cells #[.int .u64 0, .int .i64 0, .int .i64 0, .int .i64 0, .int .i64 0, .int .i64 0, .int .i64 0, .int .i64 0, .int .i64 0, .int .i64 0] 79)) u1.heap.size (R8.rootC (R8.nextR g.r)).toArray
      exact key _ _ (R8.set_root hBx _) (by omega) ((hb2.keep0 (gb_trans g1 gA)).keep gS (ne_some (by omega))) (gb_step (gb_trans gd (gb_trans g1 gA)) gS (by omega))
    · have hBx : R8.RB (u0.alloc (.cells #[.int .u64 0, .int .i64 0, .int .i64 0, .int .i64 0, .int .i64 0, .int .i64 0, .int .i64 0, .int .i64 0, .int .i64 0, .int .i64 0] 79)) u0.heap.size R8.zeroR := Blk.mk _ _ _
      have gA := gb_alloc u0 (.cells #[.int .u64 0, .int .i64 0, .int .i64 0, .int .i64 0, .int .i64 0, .int .i64 0, .int .i64 0, .int .i64 0, .int .i64 0, .int .i64 0] 79) none
      go_simp
      refine hK.out _ _ gA (fun hHeld => ?_)
      clear hK K
      try simp only [Act.put, List.setIfInBounds_toArray, List.set_cons_zero, List.set_cons_succ]
      refine wpAnyH_ready (rs := [8]) (by kernel_rfl) (by simp) ?_
      refine AllReadyH.cons (List.getElem?_toArray.trans rfl) (fun K hK => ?_) AllReadyH.nil
      go_simp
      go_at_call 56
      (with_reducible refine (hNx.out _).mono ?_)
      rintro e u1 ⟨rfl, g1⟩
      refine hK.out _ _ (gb_trans gA g1) (fun hHeld => ?_)
      clear hK K
      try simp only [Act.put, List.setIfInBounds_toArray, List.set_cons_zero, List.set_cons_succ]
      refine wpAnyH_take (i := 9) (v := ?_) (List.getElem?_toArray.trans rfl) (by kernel_rfl) (by kernel_rfl) (by kernel_rfl) (fun _ _ _ h => h) (Or.inl ⟨by rfl, ?_⟩) hHeld ?_
      rotate_left
      · intro w' hSw; go_simp; try with_reducible rfl
      try simp only [Act.put, List.setIfInBounds_toArray, List.set_cons_zero, List.set_cons_succ]
      refine wpAnyH_take (i := 10) (v := ?_) (List.getElem?_toArray.trans rfl) (by kernel_rfl) (by kernel_rfl) (by kernel_rfl) (fun _ _ _ h => h) (Or.inl ⟨by rfl, ?_⟩) hHeld ?_
      rotate_left
      · intro w' hSw; go_simp; try with_reducible rfl
      try simp only [Act.put, List.setIfInBounds_toArray, List.set_cons_zero, List.set_cons_succ]
      refine wpAnyH_take (i := 11) (v := ?_) (List.getElem?_toArray.trans rfl) (by kernel_rfl) (by kernel_rfl) (by kernel_rfl) (fun _ _ _ h => h) (Or.inl ⟨by rfl, ?_⟩) hHeld ?_
      rotate_left
      · intro w' hSw; go_simp; try with_reducible rfl
      try simp only [Act.put, List.setIfInBounds_toArray, List.set_cons_zero, List.set_cons_succ]
      refine wpAnyH_ready (rs := [13]) (by kernel_rfl) (by simp) ?_
      refine AllReadyH.cons (List.getElem?_toArray.trans rfl) (fun K hK => ?_) AllReadyH.nil
      have hB1 := R8.RB.keep0 hBx g1
      with_reducible refine R8.stR 5 28 u0.heap.size R8.zeroR (R8.nextR g.r) h0len hnlen hB1 ?_ ?_ ?_
      rfl
      rfl
      refine hK.out _ _ (gb_step (gb_trans gA g1) (gb_setRow' _ _ _) (Nat.le_refl _)) (fun hHeld => ?_)
      clear hK K
      try simp only [Act.put, List.setIfInBounds_toArray, List.set_cons_zero, List.set_cons_succ]
      refine wpAnyH_take (i := 14) (v := ?_) (List.getElem?_toArray.trans rfl) (by kernel_rfl) (by kernel_rfl) (by kernel_rfl) (fun _ _ _ h => h) (Or.inl ⟨by rfl, ?_⟩) hHeld ?_
      rotate_left
      · intro w' hSw; go_simp; try with_reducible rfl
      try simp only [Act.put, List.setIfInBounds_toArray, List.set_cons_zero, List.set_cons_succ]
      refine wpAnyH_done (by kernel_rfl) ?_ _
      refine NoPanic.normal ?_
      have gS := gb_setRow' u1 u0.heap.size (R8.rootC (R8.nextR g.r)).toArray
      exact key _ _ (R8.set_root hB1 _) (by omega) ((hb2.keep0 (gb_trans gA g1)).keep gS (ne_some (by omega))) (gb_step (gb_trans gd (gb_trans gA g1)) gS (by omega))
  intro b5 W hB5 hlt5 hC gW
  refine hK _ _ ?_
  clear hK hNx HU hb2 gd g0 b2
  have hW := H.out.keep0 gW
  obtain ⟨c0, c1, c2, c3, c4⟩ := hW.cells
  have q0 := hW.pg.cells.1
  have f51 := hB5.free 1
  have c51 := R8.RB.sectors hB5
  obtain ⟨N, hN⟩ : ∃ N, g.d.secs.length = N := ⟨_, rfl⟩
  have hSe := D5.dsectors_any W base (D5.footP k.dp k.vs k.vp k.bm) k.dp g.d ⟨k.vs, k.vp, k.bm, k.D, hW.pg.disk, fun _ h => h⟩
  rw [hN] at hSe
  have gs := gb_set W b5 1 none (.int .i64 (N : Nat))
  have hW1 := hW.past gs hltX (by omega)
  obtain ⟨z0, z1, z2, z3, z4⟩ := hW1.cells
  have hB6 := root_setN hB5 (N : Nat)
  have hC1 := hC.keep gs (ne_some (by omega))
  have gW1 := gb_step gW gs (by omega)
  have HSe := Lib.hid hSe
  have HWr := Lib.hid (written_any hW1)
  unfold WrGot at HWr
  have hdl : (T9.dirtyF T.t.D).length ≤ 8 := Nat.le_trans (List.length_filter_le _ _) (by simp)
  have hdlt := dirty_lt T.t.D
  have HDi := Lib.hid (fun w' (h : T9.PT w' y.tb T.t) => T9.dirty_any y.tb T.t w' h)
  unfold T9.NtsGot at HDi
  obtain ⟨D, hD⟩ : ∃ D, T9.dirtyF T.t.D = D := ⟨_, rfl⟩
  rw [hD] at hdl hdlt HDi HO
  have HDe := Lib.hid hD
  have HNe := Lib.hid hN
  have HDlt := Lib.hid hdlt
  have hW1 := Lib.hid hW1
  have hB6 := Lib.hid hB6
  have hC1 := Lib.hid hC1
  have gW1 := Lib.hid gW1
  have hwz : w.heap.size ≤ W.heap.size := gW.size
  clear hW hB5 hC gW hSe hD hdlt hN
  go_wp2_with (first
    | (go_at_call 57; (with_reducible refine HSe.out.mono ?_); rintro e w' ⟨rfl, rfl⟩)
    | (go_at_call 58; (with_reducible refine HWr.out.mono ?_); rintro e w2 ⟨v, lo, rfl, l1, l2, ow, g2⟩; obtain ⟨ao, cap, rfl, _⟩ := Sl.of_owns ow; obtain ⟨z0, z1, z2, z3, z4⟩ := (hW1.out.keep0 g2).cells; have ow := Lib.hid ow)
    | (go_at_call 31; (with_reducible refine (HDi.out _ (hW1.out.keep0 g2).tab).mono ?_); rintro e w3 ⟨vd, rfl, od, g3⟩; obtain ⟨ad, capd, rfl, _⟩ := Sl.of_owns od; have od := Lib.hid od)
    | fail)
  have hT3 := hW1.out.keep0 (gb_trans g2 g3)
  have hB3 := R8.RB.keep0 hB6.out (gb_trans g2 g3)
  have hC3 := hC1.out.keep0 (gb_trans g2 g3)
  have ow3 := D5.own_keep0' ow.out g3
  have gw3 := gb_trans gW1.out (gb_trans g2 g3)
  have hz2 := g2.size
  have hz3 := g3.size
  rw [World.size_setCell] at l1 hz2
  have hb5l : b5 < W.heap.size := by have := hB6.out.lt; rwa [World.size_setCell] at this
  have hft : ∀ i, footT y i → i < w.heap.size := fun i hi => hltX i (.inr (.inr (by rcases hi with h | h | h; exact .inl h; exact .inr (.inl h); exact .inr (.inr h))))
  have HFt := Lib.hid hft
  have HltX := Lib.hid hltX
  have hTb := tab_kp HT.out (D5.Kp.of0 (F := fun _ => False) gw3) (fun _ h => h.elim)
  have hy5 : ∀ i, footT y i → 4 ≤ i := by
    intro i hi
    rcases hi with rfl | rfl | rfl
    · exact Nat.le_trans h5 hT3.bt
    · exact Nat.le_trans h5 hT3.bmb
    · exact Nat.le_trans h5 hT3.bbm
  have Hy5 := Lib.hid hy5
  obtain ⟨R0, hR0⟩ : ∃ R0, wrF T.t.P T.X = R0 := ⟨_, rfl⟩
  have hR0l : R0.length ≤ 960 := by
    rw [← hR0]
    exact Nat.le_trans (List.length_filterMap_le _ _) (by rw [pagesF_N, List.length_map]; exact pagesN_length _)
  have H3 := Lib.hid hT3
  have B3 := Lib.hid hB3
  have C3 := Lib.hid hC3
  have O3 := Lib.hid ow3
  have G3 := Lib.hid gw3
  rw [hR0] at O3
  obtain ⟨L0, hL0⟩ : ∃ L0, (wrF T.t.P T.X).length = L0 := ⟨_, rfl⟩
  rw [hL0]
  rw [hR0] at hL0
  subst hL0
  have HR0 := Lib.hid hR0
  obtain ⟨e', he'⟩ : ∃ e', (R8.nextR g.r).e = e' := ⟨_, rfl⟩
  have hBs : R8.RB w3 b5 ⟨e', (N : Nat), g.r.cs⟩ := by rw [← he']; exact B3.out
  have BS := Lib.hid hBs
  have HE' := Lib.hid he'
  obtain ⟨wi0, hwi, hwz0, hwz1, hwz2⟩ := info_parts D5.Tryz.infoWr
  clear hT3 hB3 hC3 ow3 gw3 hft hltX hy5 hR0 ow hBs he' B3
  have HTb := Lib.hid hTb
  clear hTb
  go_loopw [7, 45] (fun v i wr => ∃ (m : Nat) (st : PlanS), m ≤ D.length ∧ i = .int .i64 (m : Nat) ∧ planTo T.t.P ⟨g.r.cs, T.m, []⟩ (D.take m) = some st ∧ st.M.length ≤ 1024 ∧ st.cs.length = 8 ∧ st.ws.length ≤ m ∧ R8.RB wr b5 ⟨e', (N : Nat), st.cs⟩ ∧ wr.ownsRow lo 105 2 v (R0 ++ st.ws).length (D5.wrC (R0 ++ st.ws)) ∧ TxV wr base k y n g ⟨T.t, st.M, T.X⟩ ∧ wr.ownsRow w2.heap.size 3 1 (.slice ad D.length capd) D.length (intsC D) ∧ Blk wr w.heap.size 81 zeroCm ∧ D5.Kp (footT y) w wr ∧ w2.heap.size ≤ wr.heap.size ∧ M6.Tab wr) (fun _ i _ => D.length - (intOf i).toNat)
  case atStart => exact ⟨0, ⟨g.r.cs, T.m, []⟩, by omega, rfl, by rw [List.take_zero]; rfl, hl, HF.out.1, Nat.le_refl _, BS.out, by rw [List.append_nil]; exact O3.out, H3.out, od.out, C3.out, D5.Kp.of0 G3.out, hz3, HTb.out⟩
  case round =>
    clear H3 BS O3 od C3 G3 HTb
    obtain ⟨m, st, hm, rfl, hpl, hM, hcs, hws, hB, own, hX, od, hC, hK, hsz, hTab⟩ := hrel
    obtain ⟨o3, cap3, rfl, _⟩ := Sl.of_owns own
    have hw5 : 4 ≤ w.heap.size := by have := H.out.bx; omega
    have hlnl : (R0 ++ st.ws).length ≤ 968 := by rw [List.length_append]; omega
    generalize hln : (R0 ++ st.ws).length = ln at *
    have HLn := Lib.hid hln
    clear hln
    by_cases hlt3 : m < D.length
    · obtain ⟨q, hq⟩ : ∃ q, D[m]? = some q := ⟨_, List.getElem?_eq_getElem hlt3⟩
      have hq8 := HDlt.out q (List.mem_of_getElem? hq)
      obtain ⟨x, cap', hx0, _, hx⟩ := (Sl.of_owns od).some (by omega)
      injection hx0 with hx0 _ hcp
      subst hx0
      subst hcp
      have d0 := hx m (.int .i64 (q : Nat)) (by unfold intsC; rw [List.getElem?_map, hq]; rfl)
      have h0m : (0 : Int) ≤ (m : Int) := by omega
      have h1m : (m : Int) < (D.length : Int) := by omega
      have h0q : (0 : Int) ≤ (q : Int) := by omega
      have h1q : (q : Int) < 8 := by omega
      have cq := R8.RB.chunk hB q (show q < st.cs.length by omega)
      have cq' : wr.cell? ⟨b5, 2 + q, none⟩ = some (.int .i64 (st.cs.getD q 0)) := by rw [Nat.add_comm 2 q]; exact cq
      have fq := hB.free (2 + q)
      have gs1 := gb_set wr b5 (2 + q) none (.int .i64 0)
      have hBA := root_setC hB q 0
      have hXA := hX.past gs1 HltX.out (by omega)
      have hCA := hC.keep gs1 (ne_some (by omega))
      have hKA := hK.step gs1 (fun j e => by cases e; exact .inr (by omega))
      have ownA := own_set (k := 2 + q) own (by omega : b5 < lo) (.int .i64 0)
      have odA := own_set (k := 2 + q) od (by omega : b5 < w2.heap.size) (.int .i64 0)
      have hTA := tab_kp hTab (kp_one gs1) (by rintro j rfl; omega)
      obtain ⟨z0, z1, z2, z3, z4⟩ := hXA.cells
      have hstep := plan_snoc T.t.P ⟨g.r.cs, T.m, []⟩ (D.take m) q
      rw [← D5.take_one D m q hq, hpl] at hstep
      have hF2 := fills_any (q0 := some ⟨y.mb, 0, none⟩) hXA.tab q hq8
      have HKs := Lib.hid hK
      clear cq hB hX hC hK own od hTab gs1 hx hpl hq
      have HBA := Lib.hid hBA
      have HXA := Lib.hid hXA
      have HCA := Lib.hid hCA
      have HKA := Lib.hid hKA
      have HOA := Lib.hid ownA
      have HDA := Lib.hid odA
      have HTA := Lib.hid hTA
      clear hBA hXA hCA hKA ownA odA hTA
      cases hfl : fillsB T.t.P q with
      | false =>
        have hst : planStep T.t.P st q = some ⟨st.cs.set q 0, st.M, st.ws⟩ := by unfold planStep; rw [hfl]; rfl
        have hstep2 : planTo T.t.P ⟨g.r.cs, T.m, []⟩ (D.take (m + 1)) = some ⟨st.cs.set q 0, st.M, st.ws⟩ := by rw [hstep]; exact hst
        have HST := Lib.hid hstep2
        rw [hfl] at hF2
        have HF2 := Lib.hid hF2
        clear hstep hst hstep2 hF2 hfl
        go_wp2_with (first
          | (go_at_call 59; (with_reducible refine HF2.out.mono ?_); rintro e w5 ⟨rfl, g5⟩)
          | fail)
        have hz5 := g5.size
        rw [World.size_setCell] at hz5
        have hR : ∃ (m' : Nat) (st' : PlanS), m' ≤ D.length ∧ (Value.int .i64 ((m : Int) + 1)) = .int .i64 (m' : Nat) ∧ planTo T.t.P ⟨g.r.cs, T.m, []⟩ (D.take m') = some st' ∧ st'.M.length ≤ 1024 ∧ st'.cs.length = 8 ∧ st'.ws.length ≤ m' ∧ R8.RB w5 b5 ⟨e', (N : Nat), st'.cs⟩ ∧ w5.ownsRow lo 105 2 (.slice o3 ln cap3) (R0 ++ st'.ws).length (D5.wrC (R0 ++ st'.ws)) ∧ TxV w5 base k y n g ⟨T.t, st'.M, T.X⟩ ∧ w5.ownsRow w2.heap.size 3 1 (.slice (some x) D.length capd) D.length (intsC D) ∧ Blk w5 w.heap.size 81 zeroCm ∧ D5.Kp (footT y) w w5 ∧ w2.heap.size ≤ w5.heap.size ∧ M6.Tab w5 :=
          ⟨m + 1, ⟨st.cs.set q 0, st.M, st.ws⟩, by omega, by go_num, HST.out, hM, by rw [List.length_set]; exact hcs, by show st.ws.length ≤ m + 1; omega, R8.RB.keep0 HBA.out g5, by show w5.ownsRow lo _ 2 _ (R0 ++ st.ws).length _; rw [HLn.out]; exact D5.own_keep0' HOA.out g5, HXA.out.keep0 g5, D5.own_keep0' HDA.out g5, HCA.out.keep0 g5, HKA.out.step0 g5, by omega, tab_kp HTA.out (D5.Kp.of0 (F := fun _ => False) g5) (fun _ h => h.elim)⟩
        have HR := Lib.hid hR
        clear hR
        go_roundw
        case rel => exact HR.out
        case measure => simp [intOf]; omega
      | true =>
        rw [hfl] at hF2
        have HF2 := Lib.hid hF2
        have HFl := Lib.hid hfl
        have HStep := Lib.hid hstep
        clear hF2 hfl hstep
        by_cases hk : M6.nextF st.M 0 false < st.M.length
        · have hst : planStep T.t.P st q = some ⟨st.cs.set q (M6.nextF st.M 0 false : Nat), st.M.set (M6.nextF st.M 0 false) true, st.ws ++ [(((M6.nextF st.M 0 false : Nat) : Int), chunkBy T.t.P q)]⟩ := by unfold planStep; rw [HFl.out, if_pos rfl, if_pos hk]
          have hstep2 := HStep.out.trans hst
          have hMs : M6.takeS st.M = st.M.set (M6.nextF st.M 0 false) true := if_pos hk
          have HCh := Lib.hid (fun W (hW : TxV W base k y n g ⟨T.t, st.M, T.X⟩) (hTW : M6.Tab W) => chunk_ok hW hTW hM hk q hq8)
          unfold ChunkG at HCh
          rw [hMs] at HCh
          obtain ⟨c, hc⟩ : ∃ c, M6.nextF st.M 0 false = c := ⟨_, rfl⟩
          obtain ⟨d, hd⟩ : ∃ d, chunkBy T.t.P q = d := ⟨_, rfl⟩
          have hMl : (st.M.set c true).length ≤ 1024 := by rw [List.length_set]; exact hM
          rw [hc, hd] at HCh hstep2
          obtain ⟨M', hM'⟩ : ∃ M', st.M.set c true = M' := ⟨_, rfl⟩
          rw [hM'] at HCh hstep2 hMl
          have HST := Lib.hid hstep2
          clear hst hstep2 hMs hk hc hd hM' HStep HFl
          go_wp2_with (first
            | (go_at_call 59; (with_reducible refine HF2.out.mono ?_); rintro e w5 ⟨rfl, g5⟩; have hz5 := g5.size; rw [World.size_setCell] at hz5; have hX5 := HXA.out.keep0 g5; have hT5 := tab_kp HTA.out (D5.Kp.of0 (F := fun _ => False) g5) (fun _ h => h.elim); obtain ⟨z0, z1, z2, z3, z4⟩ := hX5.cells; have hX5 := Lib.hid hX5; have hT5 := Lib.hid hT5)
            | (go_at_call 60; (with_reducible refine (HCh.out _ hX5.out hT5.out).mono ?_); rintro e w6 ⟨rfl, h6, k6⟩; have hB6 := k6.blk (R8.RB.keep0 HBA.out g5) (fun hf => by have := HFt.out _ hf; omega); have cq6 : w6.cell? ⟨b5, 2 + q, none⟩ = some (.int .i64 0) := hB6.cell (2 + q) (rootC_at e' N st.cs q (by omega)); have fq6 := hB6.free (2 + q); have hb6 := hB6.lt; have hne6 : ¬ b5 = w6.heap.size := (by omega); have hne7 : ¬ w6.heap.size = b5 := (by omega); have ow6 := k6.row (D5.own_keep0' HOA.out g5) (fun j hj hf => by have := (HOA.out.lt j hj).1; have := HFt.out _ hf; omega); have ow7 := (own_set (k := 2 + q) ow6 (by omega : b5 < lo) (.int .i64 (c : Nat))).alloc (.cells #[.int .i64 (c : Nat), .string d] 105); have hz6 := k6.size; have h6 := Lib.hid h6; have k6 := Lib.hid k6; have hB6 := Lib.hid hB6; have hn2 : ∀ j u, [Value.int .i64 (c : Nat), .string d][j]? = some u → (((w6.setCell ⟨b5, 2 + q, none⟩ (.int .i64 (c : Nat))).alloc (.cells #[.int .i64 (c : Nat), .string d] 105)).alloc (.cells #[.int .i64 (c : Nat), .string d] 105)).cell? ((⟨w6.heap.size + 1, 0, none⟩ : Addr).add j) = some u := (by have := D5.cells2_new ((w6.setCell ⟨b5, 2 + q, none⟩ (.int .i64 (c : Nat))).alloc (.cells #[.int .i64 (c : Nat), .string d] 105)) (.int .i64 (c : Nat)) (.string d) 105; rwa [World.size_alloc, World.size_setCell] at this); have HN2 := Lib.hid hn2; clear hn2 ow6)
            | (at_builtin; go_must (refine wpList_append_own _ rfl _ _ 75 rfl lo 105 wi0 (.agg #[.int .i64 0, .string ⟨#[]⟩]) 2 24 Tryz.underlying75 hwi hwz0 hwz1 hwz2 rfl (by decide) _ ln _ rfl (ow7.alloc _) ⟨w6.heap.size + 1, 0, none⟩ 1 1 [.int .i64 (c : Nat), .string d] rfl rfl HN2.out (D5.one_wr _ _) (by unfold maxLen; omega) (by omega) (by simp; omega) ?_; intro v9 w9 own9 g9 _))
            | fail)
          have g9 : (((w6.setCell ⟨b5, 2 + q, none⟩ (.int .i64 (c : Nat))).alloc (.cells #[.int .i64 (c : Nat), .string d] 105)).alloc (.cells #[.int .i64 (c : Nat), .string d] 105)).grownBy w9 (Value.slice o3 ln cap3).ownBlock := g9
          have gS := gb_set w6 b5 (2 + q) none (.int .i64 (c : Nat))
          have gB := gb_alloc (w6.setCell ⟨b5, 2 + q, none⟩ (.int .i64 (c : Nat))) (.cells #[.int .i64 (c : Nat), .string d] 105) none
          have rB7 := R8.RB.keep0 (root_setC hB6.out q (c : Nat)) gB
          have rB9 := blk_app rB7 ow7 (by omega) g9
          have hcs9 : (st.cs.set q 0).set q ((c : Nat) : Int) = st.cs.set q (c : Nat) := List.set_set ..
          have od5 := D5.own_keep0' HDA.out g5
          have od6 := k6.out.row od5 (fun j hj hf => by have := (od5.lt j hj).1; have := HFt.out _ hf; omega)
          have od7 := (own_set (k := 2 + q) od6 (by omega : b5 < w2.heap.size) (.int .i64 (c : Nat))).alloc (.cells #[.int .i64 (c : Nat), .string d] 105)
          have od8 := od7.alloc (.cells #[.int .i64 (c : Nat), .string d] 105)
          have ow8 := ow7.alloc (.cells #[.int .i64 (c : Nat), .string d] 105)
          have od9 := od8.kept g9 (by
            cases hx9 : (Value.slice (some x) D.length capd).ownBlock with
            | none => exact .inl rfl
            | some j => exact .inr (fun e => D5.row_row od8 ow8 (by decide) j hx9 e.symm))
          have hC5 := HCA.out.keep0 g5
          have hC6 := k6.out.blk hC5 (fun hf => by have := HFt.out _ hf; omega)
          have hC7 := (hC6.keep gS (ne_some (by omega))).keep0 gB
          have hC9 := blk_app hC7 ow7 (by omega) g9
          have hX7 := (h6.out.past gS HltX.out (by omega)).keep0 gB
          have hX9 := (hX7.keep0 (gb_alloc _ (.cells #[.int .i64 (c : Nat), .string d] 105) none)).frame (D5.Kp.of (F := fun i => lo ≤ i) g9 (fun j e => (ow8.lt j e).1)) (fun i hi h => by have := HltX.out i hi; omega)
          have hK7 := (((HKA.out.step0 g5).trans k6.out).step gS (fun j e => by cases e; exact .inr (by omega))).step0 gB
          have hK9 := (hK7.step0 (gb_alloc _ (.cells #[.int .i64 (c : Nat), .string d] 105) none)).step g9 (fun j e => .inr (by have := (ow8.lt j e).1; omega))
          have hz9 := g9.size
          simp only [World.size_alloc, World.size_setCell] at hz9
          have hT9 := tab_kp HT.out hK9 Hy5.out
          refine ⟨⟨m + 1, ⟨st.cs.set q (c : Nat), M', st.ws ++ [((c : Int), d)]⟩, by omega, by go_num, HST.out, hMl, by rw [List.length_set]; exact hcs, by show (st.ws ++ [((c : Int), d)]).length ≤ m + 1; rw [List.length_append]; simp; omega, ?_, ?_, hX9, od9, hC9, hK9, by omega, hT9⟩, by simp [intOf]; omega⟩
          · show R8.RB w9 b5 ⟨e', (N : Nat), st.cs.set q (c : Nat)⟩
            rw [← hcs9]; exact rB9
          · show w9.ownsRow lo _ 2 v9 (R0 ++ (st.ws ++ [((c : Int), d)])).length (D5.wrC (R0 ++ (st.ws ++ [((c : Int), d)])))
            rw [← List.append_assoc]
            exact owns_cast own9 (by rw [List.length_append, HLn.out]; rfl) (D5.wrC_snoc (R0 ++ st.ws) ((c : Int), d)).symm
        · have hst : planStep T.t.P st q = none := by unfold planStep; rw [HFl.out, if_pos rfl, if_neg hk]
          have hstep2 := HStep.out.trans hst
          have hnone : planTo T.t.P ⟨g.r.cs, T.m, []⟩ D = none := by
            have : D = D.take (m + 1) ++ D.drop (m + 1) := (List.take_append_drop _ _).symm
            rw [this]
            unfold planTo at hstep2 ⊢
            rw [List.foldl_append, hstep2]
            exact fold_none _ _
          have HNo := Lib.hid hnone
          have HCh := Lib.hid (fun W (hW : TxV W base k y n g ⟨T.t, st.M, T.X⟩) (hTW : M6.Tab W) => chunk_full hW hTW hM hk (q : Nat))
          unfold ChunkG at HCh
          clear hst hstep2 hk HStep HFl hnone
          go_wp2_with (first
            | (go_at_call 59; (with_reducible refine HF2.out.mono ?_); rintro e w5 ⟨rfl, g5⟩; have hz5 := g5.size; rw [World.size_setCell] at hz5; have hX5 := HXA.out.keep0 g5; have hT5 := tab_kp HTA.out (D5.Kp.of0 (F := fun _ => False) g5) (fun _ h => h.elim); obtain ⟨z0, z1, z2, z3, z4⟩ := hX5.cells; have hX5 := Lib.hid hX5; have hT5 := Lib.hid hT5)
            | (go_at_call 60; (with_reducible refine (HCh.out _ hX5.out hT5.out).mono ?_); rintro e w6 ⟨rfl, h6, k6⟩; have hC6 := (k6.blk (HCA.out.keep0 g5) (fun hf => by have := HFt.out _ hf; omega)).keep0 (gb_alloc w6 (.cells #[.int .i64 0, .string ⟨#[]⟩] 105) none); have hz6 := k6.size; have h6 := Lib.hid h6; have k6 := Lib.hid k6)
            | (refine wpList_store_row rfl 81 (.tmp 2) (.tmp 67) rfl w.heap.size zeroCm rfl rfl 81 zeroCm hC6 cm_info rfl cm_one ?_)
            | fail)
          have gB := gb_alloc w6 (.cells #[.int .i64 0, .string ⟨#[]⟩] 105) none
          have gR := gb_setRow' (w6.alloc (.cells #[.int .i64 0, .string ⟨#[]⟩] 105)) w.heap.size zeroCm
          refine bodyPost_ret (results_cell_tmp rfl _ _ w.heap.size _ _ rfl rfl (load_cm (blk_setRow hC6 zeroCm) rfl)) rfl (.inr ⟨by rw [HDe.out]; exact HNo.out, _, rfl, (h6.out.keep0 gB).past gR HltX.out (Nat.le_refl _), (((HKA.out.step0 g5).trans k6.out).step0 gB).step gR (fun j e => by cases e; exact .inr (Nat.le_refl _))⟩)
    · obtain rfl : m = D.length := by omega
      rw [List.take_length] at hpl
      obtain ⟨p1, p2, p3, p4⟩ := HO.out st hpl
      have hl8 : (⟨e', (N : Nat), st.cs⟩ : R8.Rt).cs.length = 8 := p1
      obtain ⟨z0, z1, z2, z3, z4⟩ := hX.cells
      have HCl := Lib.hid (T9.clean_any y.tb T.t wr hX.tab)
      unfold T9.CleanGot at HCl
      have HX := Lib.hid hX
      have HB := Lib.hid hB
      have HOw := Lib.hid own
      have HC := Lib.hid hC
      have HK := Lib.hid hK
      have HPl := Lib.hid hpl
      clear hX hB own od hC hK hTab hpl
      go_wp2_with (first
        | (go_at_call 61; (with_reducible refine HCl.out.mono ?_); rintro e wc ⟨rfl, hPc, gc⟩)
        | fail)
      have hXc := HX.out.setT gc hPc
      have hBc := R8.RB.keepS HB.out gc (ne_some (by have := HFt.out y.tb (.inl rfl); omega))
      have hCc := HC.out.keep gc (ne_some (by have := HFt.out y.tb (.inl rfl); omega))
      have ownc := HOw.out.kept gc (Or.inr (fun e => by have := (HOw.out.lt _ e).1; have := HFt.out y.tb (.inl rfl); omega))
      have hKc := HK.out.trans ((kp_one gc).mono (fun _ e => .inl e))
      have hzc := gc.size
      have hns : (st.cs.map Int.toNat).length = 8 := by rw [List.length_map]; exact p1
      have hints := cs_ints p1 p2
      have hPo := Lib.hid (fun W (hW : T9.PT W y.tb (T9.cleanF T.t)) => placesOf_any hW hns (use_all p1 _) p3 p4 hN1 hN2)
      unfold PlacesG at hPo
      have hcs0 : ∀ b, (cmL (.slice o3 ln cap3) ⟨e', (N : Nat), st.cs⟩ (R8.nextW g.wh) y.tb b).toArray.size = 14 := fun b => by rw [List.size_toArray, cmL_length _ _ hl8]
      rw [HNe.out] at hPo
      have gd := gb_drew wc none
      have hBc := R8.RB.keep0 hBc gd
      have hCc := hCc.keep0 gd
      have hXc := hXc.keep0 gd
      have ownc := D5.own_keep0' ownc gd
      have hKc := hKc.step0 gd
      obtain ⟨d0, d1, d2, d3, d4⟩ := hXc.cells
      have c51 := R8.RB.sectors hBc
      have hrg := R8.rb_range hBc hl8
      have hXc := Lib.hid hXc
      have ownc := Lib.hid ownc
      have hKc := Lib.hid hKc
      have hzd := Lib.hid (show wc.drew.heap.size = wc.heap.size from rfl)
      refine wp_region_noPanic ?_
      refine wp_region_held_drew (S := fun w' => wc.drew.grownBy w' none) (by kernel_rfl) (gb_refl _ _) (fun hHeld => ?_)
      clear hPc gc gd z0 z1 z2 z3 z4
      generalize wc.drew = u0 at *
      refine wpAnyH_take (i := 0) (v := ?_) (List.getElem?_toArray.trans rfl) (by kernel_rfl) (by kernel_rfl) (by kernel_rfl) (fun _ _ _ h => h) (Or.inl ⟨by rfl, ?_⟩) hHeld ?_
      rotate_left
      · intro w' hSw; have e1 := hSw.cell d1 (by simp); have e5 := hSw.cell c51 (by simp); go_simp; try with_reducible rfl
      try simp only [Act.put, List.setIfInBounds_toArray, List.set_cons_zero, List.set_cons_succ]
      refine wpAnyH_take (i := 1) (v := ?_) (List.getElem?_toArray.trans rfl) (by kernel_rfl) (by kernel_rfl) (by kernel_rfl) (fun _ _ _ h => h) (Or.inl ⟨by rfl, ?_⟩) hHeld ?_
      rotate_left
      · intro w' hSw; have e1 := hSw.cell d1 (by simp); have e5 := hSw.cell c51 (by simp); go_simp; try with_reducible rfl
      try simp only [Act.put, List.setIfInBounds_toArray, List.set_cons_zero, List.set_cons_succ]
      refine wpAnyH_take (i := 2) (v := ?_) (List.getElem?_toArray.trans rfl) (by kernel_rfl) (by kernel_rfl) (by kernel_rfl) (fun _ _ _ h => h) (Or.inl ⟨by rfl, ?_⟩) hHeld ?_
      rotate_left
      · intro w' hSw; have e1 := hSw.cell d1 (by simp); have e5 := hSw.cell c51 (by simp); go_simp; try with_reducible rfl
      try simp only [Act.put, List.setIfInBounds_toArray, List.set_cons_zero, List.set_cons_succ]
      refine wpAnyH_take (i := 3) (v := .agg (intsC (st.cs.map Int.toNat)).toArray) (List.getElem?_toArray.trans rfl) (by kernel_rfl) (by kernel_rfl) (by kernel_rfl) (fun _ _ _ h => h) (Or.inl ⟨by rfl, ?_⟩) hHeld ?_
      · intro w' hSw; have e1 := hSw.cell d1 (by simp); have e5 := hSw.cell c51 (by simp); exact T9.exec_load _ _ rfl ⟨b5, 2, none⟩ rfl _ (by rw [← hints]; exact run_loadVar_mid w' b5 2 77 (R8.eightC ⟨e', (N : Nat), st.cs⟩) _ (range_keep hrg hSw) Tryz.underlying77 rfl (R8.eight_info _ hl8))
      try simp only [Act.put, List.setIfInBounds_toArray, List.set_cons_zero, List.set_cons_succ]
      refine wpAnyH_take (i := 4) (v := ?_) (List.getElem?_toArray.trans rfl) (by kernel_rfl) (by kernel_rfl) (by kernel_rfl) (fun _ _ _ h => h) (Or.inl ⟨by rfl, ?_⟩) hHeld ?_
      rotate_left
      · intro w' hSw; have e1 := hSw.cell d1 (by simp); have e5 := hSw.cell c51 (by simp); go_simp; try with_reducible rfl
      try simp only [Act.put, List.setIfInBounds_toArray, List.set_cons_zero, List.set_cons_succ]
      refine wpAnyH_take (i := 5) (v := ?_) (List.getElem?_toArray.trans rfl) (by kernel_rfl) (by kernel_rfl) (by kernel_rfl) (fun _ _ _ h => h) (Or.inl ⟨by rfl, ?_⟩) hHeld ?_
      rotate_left
      · intro w' hSw; have e1 := hSw.cell d1 (by simp); have e5 := hSw.cell c51 (by simp); go_simp; try with_reducible rfl
      try simp only [Act.put, List.setIfInBounds_toArray, List.set_cons_zero, List.set_cons_succ]
      refine wpAnyH_take (i := 6) (v := ?_) (List.getElem?_toArray.trans rfl) (by kernel_rfl) (by kernel_rfl) (by kernel_rfl) (fun _ _ _ h => h) (Or.inl ⟨by rfl, ?_⟩) hHeld ?_
      rotate_left
      · intro w' hSw; have e1 := hSw.cell d1 (by simp); have e5 := hSw.cell c51 (by simp); go_simp; try with_reducible rfl
      try simp only [Act.put, List.setIfInBounds_toArray, List.set_cons_zero, List.set_cons_succ]
      refine wpAnyH_take (i := 7) (v := ?_) (List.getElem?_toArray.trans rfl) (by kernel_rfl) (by kernel_rfl) (by kernel_rfl) (fun _ _ _ h => h) (Or.inl ⟨by rfl, ?_⟩) hHeld ?_
      rotate_left
      · intro w' hSw; have e1 := hSw.cell d1 (by simp); have e5 := hSw.cell c51 (by simp); go_simp; try with_reducible rfl
      try simp only [Act.put, List.setIfInBounds_toArray, List.set_cons_zero, List.set_cons_succ]
      refine wpAnyH_take (i := 8) (v := ?_) (List.getElem?_toArray.trans rfl) (by kernel_rfl) (by kernel_rfl) (by kernel_rfl) (fun _ _ _ h => h) (Or.inl ⟨by rfl, ?_⟩) hHeld ?_
      rotate_left
      · intro w' hSw; have e1 := hSw.cell d1 (by simp); have e5 := hSw.cell c51 (by simp); go_simp; try with_reducible rfl
      try simp only [Act.put, List.setIfInBounds_toArray, List.set_cons_zero, List.set_cons_succ]
      refine wpAnyH_ready (rs := [9, 13]) (by kernel_rfl) (by simp) ?_
      refine AllReadyH.cons (List.getElem?_toArray.trans rfl) (fun K hK => ?_) (AllReadyH.cons (List.getElem?_toArray.trans rfl) (fun K hK => ?_) AllReadyH.nil)
      · go_simp
        go_at_call 62
        (with_reducible refine (hPo.out _ hXc.out.tab).mono ?_)
        rintro e u1 ⟨b, rfl, hb1, hPMb, g1⟩
        refine hK.out _ _ g1 (fun hHeld => ?_)
        clear hK K
        try simp only [Act.put, List.setIfInBounds_toArray, List.set_cons_zero, List.set_cons_succ]
        have hb0 : Blk (u1.alloc (.cells #[.pointer none, .pointer none] 71)) u1.heap.size 71 #[.pointer none, .pointer none] := Blk.mk _ _ _
        have gA := gb_alloc u1 (.cells #[.pointer none, .pointer none] 71) none
        have hi1 := pl_info (.pointer (some ⟨y.tb, 0, none⟩)) (.pointer (some ⟨b, 0, none⟩))
        have hz1 := pl_size (.pointer none) (.pointer none) (.pointer (some ⟨y.tb, 0, none⟩)) (.pointer (some ⟨b, 0, none⟩))
        have ho1 := pl_one (some ⟨y.tb, 0, none⟩) (some ⟨b, 0, none⟩)
        have hzb := g1.size
        refine wpAnyH_take (i := 10) (v := ?_) (List.getElem?_toArray.trans rfl) (by kernel_rfl) (by kernel_rfl) (by kernel_rfl) (fun _ _ _ h => h) (Or.inl ⟨by rfl, ?_⟩) hHeld ?_
        rotate_left
        · intro w' hSw; go_simp; try with_reducible rfl
        try simp only [Act.put, List.setIfInBounds_toArray, List.set_cons_zero, List.set_cons_succ]
        refine wpAnyH_take (i := 11) (v := ?_) (List.getElem?_toArray.trans rfl) (by kernel_rfl) (by kernel_rfl) (by kernel_rfl) (fun _ _ _ h => h) (Or.inl ⟨by rfl, ?_⟩) hHeld ?_
        rotate_left
        · intro w' hSw; go_simp; try with_reducible rfl
        try simp only [Act.put, List.setIfInBounds_toArray, List.set_cons_zero, List.set_cons_succ]
        refine wpAnyH_take (i := 12) (v := ?_) (List.getElem?_toArray.trans rfl) (by kernel_rfl) (by kernel_rfl) (by kernel_rfl) (fun _ _ _ h => h) (Or.inl ⟨by rfl, ?_⟩) hHeld ?_
        rotate_left
        · intro w' hSw; go_simp; try with_reducible rfl
        try simp only [Act.put, List.setIfInBounds_toArray, List.set_cons_zero, List.set_cons_succ]
        refine wpAnyH_ready (rs := [13]) (by kernel_rfl) (by simp) ?_
        refine AllReadyH.cons (List.getElem?_toArray.trans rfl) (fun K hK => ?_) AllReadyH.nil
        go_simp
        refine hK.out _ _ (gb_trans g1 gA) (fun hHeld => ?_)
        clear hK K
        try simp only [Act.put, List.setIfInBounds_toArray, List.set_cons_zero, List.set_cons_succ]
        refine wpAnyH_ready (rs := [14]) (by kernel_rfl) (by simp) ?_
        refine AllReadyH.cons (List.getElem?_toArray.trans rfl) (fun K hK => ?_) AllReadyH.nil
        with_reducible refine T9.stA 71 #[.pointer none, .pointer none] #[.pointer (some ⟨y.tb, 0, none⟩), .pointer (some ⟨b, 0, none⟩)] 12 96 u1.heap.size hb0 hi1 hz1 ho1 ?_ ?_ ?_
        rfl
        rfl
        refine hK.out _ _ (gb_step (gb_trans g1 gA) (gb_setRow' _ _ _) hzb) (fun hHeld => ?_)
        clear hK K
        try simp only [Act.put, List.setIfInBounds_toArray, List.set_cons_zero, List.set_cons_succ]
        refine wpAnyH_take (i := 15) (v := ?_) (List.getElem?_toArray.trans rfl) (by kernel_rfl) (by kernel_rfl) (by kernel_rfl) (fun _ _ _ h => h) (Or.inl ⟨by rfl, ?_⟩) hHeld ?_
        rotate_left
        · intro w' hSw; go_simp; try with_reducible rfl
        try simp only [Act.put, List.setIfInBounds_toArray, List.set_cons_zero, List.set_cons_succ]
        refine wpAnyH_done (by kernel_rfl) ?_ _
        refine NoPanic.normal ?_
        have hB12 := blk_setRow hb0 #[.pointer (some ⟨y.tb, 0, none⟩), .pointer (some ⟨b, 0, none⟩)]
        have gfin : u0.grownBy ((u1.alloc (.cells #[.pointer none, .pointer none] 71)).setRow u1.heap.size #[.pointer (some ⟨y.tb, 0, none⟩), .pointer (some ⟨b, 0, none⟩)]) none := gb_step (gb_trans g1 gA) (gb_setRow' _ _ _) hzb
        have hPMb := (hPMb.keep0 gA).keep (gb_setRow' (u1.alloc (.cells #[.pointer none, .pointer none] 71)) u1.heap.size #[.pointer (some ⟨y.tb, 0, none⟩), .pointer (some ⟨b, 0, none⟩)]) (ne_some (by have := hPMb.lt; have := hzd.out; omega))
        have hBw := R8.RB.keep0 hBc gfin
        have hCw := hCc.keep0 gfin
        have hlr : (loadVar 79 ⟨b5, 0, none⟩).run Tryz.prog ((u1.alloc (.cells #[.pointer none, .pointer none] 71)).setRow u1.heap.size #[.pointer (some ⟨y.tb, 0, none⟩), .pointer (some ⟨b, 0, none⟩)]) = .ok (R8.RV ⟨e', (N : Nat), st.cs⟩) ((u1.alloc (.cells #[.pointer none, .pointer none] 71)).setRow u1.heap.size #[.pointer (some ⟨y.tb, 0, none⟩), .pointer (some ⟨b, 0, none⟩)]) := R8.RB.load hBw hl8
        have hlp := load_places hB12 rfl rfl
        clear hBw
        have hcb : (Tryz.prog.info? 81).map (·.size) = some (cmL (.slice o3 ln cap3) ⟨e', (N : Nat), st.cs⟩ (R8.nextW g.wh) y.tb b).toArray.size := by rw [cm_info14, hcs0]
        have hcz : zeroCm.size = (cmL (.slice o3 ln cap3) ⟨e', (N : Nat), st.cs⟩ (R8.nextW g.wh) y.tb b).toArray.size := by rw [hcs0]; rfl
        have hco := cmL_one o3 ln cap3 ⟨e', (N : Nat), st.cs⟩ (R8.nextW g.wh) y.tb b
        have hlo := (ownc.out.lt)
        go_wp2_with (first
          | (refine M6.wpList_load_at rfl 79 (.tmp 5) rfl ⟨b5, 0, none⟩ rfl _ hlr ?_)
          | (refine M6.wpList_load_at rfl 71 (.tmp 12) rfl ⟨u1.heap.size, 0, none⟩ rfl _ hlp ?_)
          | (refine wpl_build4 rfl 81 (.tmp 98) (.tmp 99) (.tmp 100) (.tmp 101) (.slice o3 ln cap3) (R8.RV ⟨e', (N : Nat), st.cs⟩) (.int .i64 (R8.nextW g.wh)) (.agg #[.pointer (some ⟨y.tb, 0, none⟩), .pointer (some ⟨b, 0, none⟩)]) (cmL (.slice o3 ln cap3) ⟨e', (N : Nat), st.cs⟩ (R8.nextW g.wh) y.tb b).toArray rfl rfl rfl rfl rfl (built_commit o3 ln cap3 _ hl8 _ _ _) ?_)
          | (refine wpList_store_row rfl 81 (.tmp 2) (.tmp 102) rfl w.heap.size (cmL (.slice o3 ln cap3) ⟨e', (N : Nat), st.cs⟩ (R8.nextW g.wh) y.tb b).toArray rfl rfl 81 zeroCm hCw hcb hcz hco ?_)
          | fail)
        have gZ := gb_setRow' ((u1.alloc (.cells #[.pointer none, .pointer none] 71)).setRow u1.heap.size #[.pointer (some ⟨y.tb, 0, none⟩), .pointer (some ⟨b, 0, none⟩)]) w.heap.size (cmL (.slice o3 ln cap3) ⟨e', (N : Nat), st.cs⟩ (R8.nextW g.wh) y.tb b).toArray
        refine bodyPost_ret (results_cell_tmp rfl _ _ w.heap.size _ _ rfl rfl (load_cm (blk_setRow hCw _) (hcs0 b))) rfl (.inl ⟨st, by rw [HDe.out]; exact HPl.out, .slice o3 ln cap3, lo, b, ?_, by have := hzd.out; omega, ?_, ?_, ?_, ?_, ?_, ?_⟩)
        · rw [HNe.out, ← HE'.out]; rfl
        · have hzF := gfin.size; rw [size_setRow']; have := hzd.out; omega
        · rw [HR0.out, ← List.length_append, HLn.out]; exact (D5.own_keep0' ownc.out gfin).kept gZ (Or.inr (fun e => by have := (ownc.out.lt _ e).1; have := hzd.out; omega))
        · have := hzd.out; omega
        · rw [HNe.out]; exact hPMb.keep gZ (ne_some (by have := hzd.out; omega))
        · exact (hXc.out.keep0 gfin).past gZ HltX.out (Nat.le_refl _)
        · exact (hKc.out.step0 gfin).step gZ (fun j e => by cases e; exact .inr (Nat.le_refl _))
      · have hb0 : Blk (u0.alloc (.cells #[.pointer none, .pointer none] 71)) u0.heap.size 71 #[.pointer none, .pointer none] := Blk.mk _ _ _
        have gA := gb_alloc u0 (.cells #[.pointer none, .pointer none] 71) none
        go_simp
        refine hK.out _ _ gA (fun hHeld => ?_)
        clear hK K
        try simp only [Act.put, List.setIfInBounds_toArray, List.set_cons_zero, List.set_cons_succ]
        have hXa := hXc.out.tab.keep0 gA
        refine wpAnyH_ready (rs := [9]) (by kernel_rfl) (by simp) ?_
        refine AllReadyH.cons (List.getElem?_toArray.trans rfl) (fun K hK => ?_) AllReadyH.nil
        go_simp
        go_at_call 62
        (with_reducible refine (hPo.out _ hXa).mono ?_)
        rintro e u1 ⟨b, rfl, hb1, hPMb, g1⟩
        refine hK.out _ _ (gb_trans gA g1) (fun hHeld => ?_)
        clear hK K
        try simp only [Act.put, List.setIfInBounds_toArray, List.set_cons_zero, List.set_cons_succ]
        refine wpAnyH_take (i := 10) (v := ?_) (List.getElem?_toArray.trans rfl) (by kernel_rfl) (by kernel_rfl) (by kernel_rfl) (fun _ _ _ h => h) (Or.inl ⟨by rfl, ?_⟩) hHeld ?_
        rotate_left
        · intro w' hSw; go_simp; try with_reducible rfl
        try simp only [Act.put, List.setIfInBounds_toArray, List.set_cons_zero, List.set_cons_succ]
        refine wpAnyH_take (i := 11) (v := ?_) (List.getElem?_toArray.trans rfl) (by kernel_rfl) (by kernel_rfl) (by kernel_rfl) (fun _ _ _ h => h) (Or.inl ⟨by rfl, ?_⟩) hHeld ?_
        rotate_left
        · intro w' hSw; go_simp; try with_reducible rfl
        try simp only [Act.put, List.setIfInBounds_toArray, List.set_cons_zero, List.set_cons_succ]
        refine wpAnyH_take (i := 12) (v := ?_) (List.getElem?_toArray.trans rfl) (by kernel_rfl) (by kernel_rfl) (by kernel_rfl) (fun _ _ _ h => h) (Or.inl ⟨by rfl, ?_⟩) hHeld ?_
        rotate_left
        · intro w' hSw; go_simp; try with_reducible rfl
        try simp only [Act.put, List.setIfInBounds_toArray, List.set_cons_zero, List.set_cons_succ]
        have hi1 := pl_info (.pointer (some ⟨y.tb, 0, none⟩)) (.pointer (some ⟨b, 0, none⟩))
        have hz1 := pl_size (.pointer none) (.pointer none) (.pointer (some ⟨y.tb, 0, none⟩)) (.pointer (some ⟨b, 0, none⟩))
        have ho1 := pl_one (some ⟨y.tb, 0, none⟩) (some ⟨b, 0, none⟩)
        have hb2 := hb0.keep0 g1
        rw [World.size_alloc] at hb1
        refine wpAnyH_ready (rs := [14]) (by kernel_rfl) (by simp) ?_
        refine AllReadyH.cons (List.getElem?_toArray.trans rfl) (fun K hK => ?_) AllReadyH.nil
        with_reducible refine T9.stA 71 #[.pointer none, .pointer none] #[.pointer (some ⟨y.tb, 0, none⟩), .pointer (some ⟨b, 0, none⟩)] 12 96 u0.heap.size hb2 hi1 hz1 ho1 ?_ ?_ ?_
        rfl
        rfl
        refine hK.out _ _ (gb_step (gb_trans gA g1) (gb_setRow' _ _ _) (Nat.le_refl _)) (fun hHeld => ?_)
        clear hK K
        try simp only [Act.put, List.setIfInBounds_toArray, List.set_cons_zero, List.set_cons_succ]
        refine wpAnyH_take (i := 15) (v := ?_) (List.getElem?_toArray.trans rfl) (by kernel_rfl) (by kernel_rfl) (by kernel_rfl) (fun _ _ _ h => h) (Or.inl ⟨by rfl, ?_⟩) hHeld ?_
        rotate_left
        · intro w' hSw; go_simp; try with_reducible rfl
        try simp only [Act.put, List.setIfInBounds_toArray, List.set_cons_zero, List.set_cons_succ]
        refine wpAnyH_done (by kernel_rfl) ?_ _
        refine NoPanic.normal ?_
        have hB12 := blk_setRow hb2 #[.pointer (some ⟨y.tb, 0, none⟩), .pointer (some ⟨b, 0, none⟩)]
        have gfin : u0.grownBy (u1.setRow u0.heap.size #[.pointer (some ⟨y.tb, 0, none⟩), .pointer (some ⟨b, 0, none⟩)]) none := gb_step (gb_trans gA g1) (gb_setRow' _ _ _) (Nat.le_refl _)
        have hPMb := hPMb.keep (gb_setRow' u1 u0.heap.size #[.pointer (some ⟨y.tb, 0, none⟩), .pointer (some ⟨b, 0, none⟩)]) (ne_some (by have := hzd.out; omega))
        have hBw := R8.RB.keep0 hBc gfin
        have hCw := hCc.keep0 gfin
        have hlr : (loadVar 79 ⟨b5, 0, none⟩).run Tryz.prog (u1.setRow u0.heap.size #[.pointer (some ⟨y.tb, 0, none⟩), .pointer (some ⟨b, 0, none⟩)]) = .ok (R8.RV ⟨e', (N : Nat), st.cs⟩) (u1.setRow u0.heap.size #[.pointer (some ⟨y.tb, 0, none⟩), .pointer (some ⟨b, 0, none⟩)]) := R8.RB.load hBw hl8
        have hlp := load_places hB12 rfl rfl
        clear hBw
        have hcb : (Tryz.prog.info? 81).map (·.size) = some (cmL (.slice o3 ln cap3) ⟨e', (N : Nat), st.cs⟩ (R8.nextW g.wh) y.tb b).toArray.size := by rw [cm_info14, hcs0]
        have hcz : zeroCm.size = (cmL (.slice o3 ln cap3) ⟨e', (N : Nat), st.cs⟩ (R8.nextW g.wh) y.tb b).toArray.size := by rw [hcs0]; rfl
        have hco := cmL_one o3 ln cap3 ⟨e', (N : Nat), st.cs⟩ (R8.nextW g.wh) y.tb b
        have hlo := (ownc.out.lt)
        go_wp2_with (first
          | (refine M6.wpList_load_at rfl 79 (.tmp 5) rfl ⟨b5, 0, none⟩ rfl _ hlr ?_)
          | (refine M6.wpList_load_at rfl 71 (.tmp 12) rfl ⟨u0.heap.size, 0, none⟩ rfl _ hlp ?_)
          | (refine wpl_build4 rfl 81 (.tmp 98) (.tmp 99) (.tmp 100) (.tmp 101) (.slice o3 ln cap3) (R8.RV ⟨e', (N : Nat), st.cs⟩) (.int .i64 (R8.nextW g.wh)) (.agg #[.pointer (some ⟨y.tb, 0, none⟩), .pointer (some ⟨b, 0, none⟩)]) (cmL (.slice o3 ln cap3) ⟨e', (N : Nat), st.cs⟩ (R8.nextW g.wh) y.tb b).toArray rfl rfl rfl rfl rfl (built_commit o3 ln cap3 _ hl8 _ _ _) ?_)
          | (refine wpList_store_row rfl 81 (.tmp 2) (.tmp 102) rfl w.heap.size (cmL (.slice o3 ln cap3) ⟨e', (N : Nat), st.cs⟩ (R8.nextW g.wh) y.tb b).toArray rfl rfl 81 zeroCm hCw hcb hcz hco ?_)
          | fail)
        have gZ := gb_setRow' (u1.setRow u0.heap.size #[.pointer (some ⟨y.tb, 0, none⟩), .pointer (some ⟨b, 0, none⟩)]) w.heap.size (cmL (.slice o3 ln cap3) ⟨e', (N : Nat), st.cs⟩ (R8.nextW g.wh) y.tb b).toArray
        refine bodyPost_ret (results_cell_tmp rfl _ _ w.heap.size _ _ rfl rfl (load_cm (blk_setRow hCw _) (hcs0 b))) rfl (.inl ⟨st, by rw [HDe.out]; exact HPl.out, .slice o3 ln cap3, lo, b, ?_, by have := hzd.out; omega, ?_, ?_, ?_, ?_, ?_, ?_⟩)
        · rw [HNe.out, ← HE'.out]; rfl
        · have hzF := gfin.size; rw [size_setRow']; have := hzd.out; omega
        · rw [HR0.out, ← List.length_append, HLn.out]; exact (D5.own_keep0' ownc.out gfin).kept gZ (Or.inr (fun e => by have := (ownc.out.lt _ e).1; have := hzd.out; omega))
        · have := hzd.out; omega
        · rw [HNe.out]; exact hPMb.keep gZ (ne_some (by have := hzd.out; omega))
        · exact (hXc.out.keep0 gfin).past gZ HltX.out (Nat.le_refl _)
        · exact (hKc.out.step0 gfin).step gZ (fun j e => by cases e; exact .inr (Nat.le_refl _))
end Go.Proofs.YtliiooldlooagaaGreatDoor.J10

/-
  What lays a commit on the disk, its parts: the disk behind so many operations, must, and what recovers, over this seat's translation; conditions: those that each law states.
-/
namespace Go.Proofs.YtliiooldlooagaaGreatDoor.J10
open Go.RowKit Go.Maps
/-- A disk behind k operations more; one whose power went then. -/
def atD (s : D5.St) (k : Nat) (a : List ByteArray) (b : List (Int × ByteArray)) : D5.St := ⟨a, b, false, s.armed, if s.armed then s.left - k else s.left, s.ops + k⟩
def dnD (s : D5.St) (k : Nat) (a : List ByteArray) (b : List (Int × ByteArray)) : D5.St := ⟨a, b, true, false, 0, s.ops + k⟩
def cutAt (s : D5.St) (k : Nat) : Prop := s.armed = true ∧ s.left ≤ k
variable {s : D5.St} {k : Nat} {a : List ByteArray} {b : List (Int × ByteArray)}
theorem at_zero (h : s.off = false) : atD s 0 s.secs s.pend = s := by
  obtain ⟨_, _, _, _, _, _⟩ := s
  simp only at h
  simp [atD, h]
theorem at_E_cut (h : cutAt s k) : D5.opE (atD s k a b) true = 10 := by
  have h1 := h.1
  have h2 : s.left ≤ k := h.2
  simp [D5.opE, atD, h1, h2]
theorem at_E_go (h : ¬ cutAt s k) : D5.opE (atD s k a b) true = 0 := by
  cases e : s.armed with
  | false => simp [D5.opE, atD, e]
  | true =>
    have h2 : (k : Int) < s.left := by
      rcases Int.lt_or_le (k : Int) s.left with h2 | h2
      · exact h2
      · exact absurd ⟨e, h2⟩ h
    simp [D5.opE, atD, e, h2]
theorem at_S_cut (h : cutAt s k) : D5.opS (atD s k a b) true = dnD s k a b := by
  have h1 := h.1
  have h2 : ¬ 0 < s.left - k := by have := h.2; omega
  have h3 : ¬ (k : Int) < s.left := by have := h.2; omega
  simp [D5.opS, atD, dnD, h1, h3]
theorem at_S_go (h : ¬ cutAt s k) : D5.opS (atD s k a b) true = atD s (k + 1) a b := by
  cases e : s.armed with
  | false => simp [D5.opS, atD, e]; omega
  | true =>
    have h2 : (k : Int) < s.left := by
      rcases Int.lt_or_le (k : Int) s.left with h2 | h2
      · exact h2
      · exact absurd ⟨e, h2⟩ h
    simp [D5.opS, atD, e, h2]; omega
theorem at_W_cut (h : cutAt s k) {i : Int} {d : ByteArray} (hm : D5.mayW (atD s k a b) i d = true) : D5.writeT (atD s k a b) i d = dnD s k a b := by
  unfold D5.writeT
  rw [hm, at_E_cut h, if_neg (by decide), at_S_cut h]
theorem at_W_go (h : ¬ cutAt s k) {i : Int} {d : ByteArray} (hm : D5.mayW (atD s k a b) i d = true) : D5.writeT (atD s k a b) i d = atD s (k + 1) a (b ++ [(i, d)]) := by
  unfold D5.writeT
  rw [hm, at_E_go h, if_pos rfl, at_S_go h]
  rfl
theorem at_B_cut (h : cutAt s k) : D5.barS (atD s k a b) = dnD s k a b := by
  unfold D5.barS
  rw [at_E_cut h, if_neg (by decide), at_S_cut h]
theorem at_B_go (h : ¬ cutAt s k) : D5.barS (atD s k a b) = atD s (k + 1) (D5.laidF b a) [] := by
  unfold D5.barS
  rw [at_E_go h, if_pos rfl, at_S_go h]
  rfl
theorem at_may {m : List Bool} {ws : List (Int × ByteArray)} (h : Wrs a.length m ws) {x : Int × ByteArray} (hx : x ∈ ws) : D5.mayW (atD s k a b) x.1 x.2 = true := by
  obtain ⟨j, e, _, h2, _, h4⟩ := h.each x hx
  unfold D5.mayW D5.hasF
  rw [e, h4]
  simp [atD, h2]
theorem must_ok (w : World) : Calls Tryz.prog 64 #[.int .i64 0] w fun e w' => e = .returned (.tuple #[]) ∧ w = w' := by
  go_enter Tryz.func64, Tryz.ntmps64
  go_wp2
  first | go_end0 | skip
  exact ⟨rfl, rfl⟩
/-- What a commit is given up with. -/
def pan (E : Int) (r : Bool) : PanicEntry := { v := .iface 134 (.agg #[.int .i64 E]), recovered := r }
theorem must_no (E : Int) (h : E ≠ 0) (w : World) : Calls Tryz.prog 64 #[.int .i64 E] w fun e w' => e = .panicked [pan E false] ∧ w = w' := by
  have hd : (E == 0) = false := by simpa using h
  go_enter Tryz.func64, Tryz.ntmps64
  go_wp2
  exact ⟨rfl, rfl, rfl⟩
theorem gave_idle (p0 e0 : Nat) (w : World) :
    CallsD Tryz.prog 63 #[.pointer (some ⟨p0, 0, none⟩), .pointer (some ⟨e0, 0, none⟩)] .returning w fun e u' w' => e = .returned (.tuple #[]) ∧ u' = .returning ∧ w' = w := by
  refine callsD_of_wpS Tryz.func63 rfl fun c₀ cs hu => ?_
  apply wpS_seq
  apply wpS_region
  simp [wpOpsS, go_sem, recoverD, hu, Tryz.ntmps63, Exit.thenS]
  refine wpS_of_wp ?_
  go_wp2
  cases c₀
  simp_all [bodyPostS, results, Tryz.results63]
theorem as_refusal (v : Value) (xT : TypeId) (w : World) : (Instr.typeAssert (.iface 134 v) xT 134 true).run Tryz.prog w = .ok (.tuple #[v, .bool true]) w := by
  simp [Instr.typeAssert, run_underlying Tryz.underlying134, go_sem, Result.andThen]
set_option maxRecDepth 100000 in
set_option maxHeartbeats 2000000 in
theorem gave_any (p0 e0 q : Nat) (E z : Int) (dd : Bool) (w : World) (cp : w.cell? ⟨p0, 0, none⟩ = some (.pointer (some ⟨q, 0, none⟩))) (cd : w.cell? ⟨q, 14, none⟩ = some (.bool dd)) (fd : w.frozen? ⟨q, 14, none⟩ = false)
    (ce : w.cell? ⟨e0, 0, none⟩ = some (.int .i64 z)) (fe : w.frozen? ⟨e0, 0, none⟩ = false) (hq : q ≠ e0) (hp : p0 ≠ e0) (hpq : p0 ≠ q) :
    CallsD Tryz.prog 63 #[.pointer (some ⟨p0, 0, none⟩), .pointer (some ⟨e0, 0, none⟩)] (.panicking [pan E false]) w fun e u' w' => e = .returned (.tuple #[]) ∧ u' = .panicking [pan E true] ∧
      ∃ u, w.grownBy u none ∧ w' = (u.setCell ⟨q, 14, none⟩ (.bool true)).setCell ⟨e0, 0, none⟩ (.int .i64 E) := by
  refine callsD_of_wpS Tryz.func63 rfl fun c₀ cs hu => ?_
  unfold pan at hu
  apply wpS_seq
  apply wpS_region
  simp [wpOpsS, go_sem, recoverD, hu, Tryz.ntmps63, Exit.thenS]
  refine wpS_of_wp (a := ⟨#[.pointer (some ⟨p0, 0, none⟩), .pointer (some ⟨e0, 0, none⟩), undef, undef, undef, .iface 134 (.agg #[.int .i64 E]), undef, undef, undef, undef, undef, undef, undef, undef, undef, undef], []⟩) ?_
  generalize hQ : (fun (e : Exit) (a' : Act) (w' : World) => _) = Q
  have has := as_refusal (.agg #[.int .i64 E])
  have hlp := World.block_lt_of_cell? w _ cp
  have hlq := World.block_lt_of_cell? w _ cd
  have hle := World.block_lt_of_cell? w _ ce
  simp only at hlp hlq hle
  go_wp2
  have g0 := gb_alloc w (.cells #[.int .i64 E] 134) none
  have b0 : Blk (w.alloc (.cells #[.int .i64 E] 134)) w.heap.size 134 #[.int .i64 E] := Blk.mk w _ _
  have keep : ∀ a v, w.cell? a = some v → a.block < w.heap.size → (w.alloc (.cells #[.int .i64 E] 134)).cell? a = some v := by
    intro a v h hl
    rw [World.cell?_alloc_lt _ _ _ hl]; exact h
  have cp' := keep _ _ cp hlp
  have cd' := keep _ _ cd hlq
  have ce' := keep _ _ ce hle
  have fd' : (w.alloc (.cells #[.int .i64 E] 134)).frozen? ⟨q, 14, none⟩ = false := (World.frozen?_alloc_past _ _ _ hlq).trans fd
  have fe' : (w.alloc (.cells #[.int .i64 E] 134)).frozen? ⟨e0, 0, none⟩ = false := (World.frozen?_alloc_past _ _ _ hle).trans fe
  clear keep cp cd ce fd fe
  generalize w.alloc (.cells #[.int .i64 E] 134) = u at *
  have cE : u.cell? ⟨w.heap.size, 0, none⟩ = some (.int .i64 E) := b0.cell 0 rfl
  have hE0 : w.heap.size ≠ e0 := by omega
  have hEq : w.heap.size ≠ q := by omega
  refine wp_region_noPanic ?_
  refine wp_region_held_drew (S := fun w' => w'.cell? ⟨p0, 0, none⟩ = some (.pointer (some ⟨q, 0, none⟩)) ∧ w'.cell? ⟨w.heap.size, 0, none⟩ = some (.int .i64 E)) (by kernel_rfl) ⟨cp', b0.cell 0 rfl⟩ (fun hHeld => ?_)
  refine wpAnyH_take (i := 0) (v := ?_) (List.getElem?_toArray.trans rfl) (by kernel_rfl) (by kernel_rfl) (by kernel_rfl) (fun _ _ _ h => h) (Or.inl ⟨by rfl, ?_⟩) hHeld ?_
  rotate_left
  · intro w' hSw; have q1 := hSw.1; have q2 := hSw.2; go_simp; try with_reducible rfl
  try simp only [Act.put, List.setIfInBounds_toArray, List.set_cons_zero, List.set_cons_succ]
  refine wpAnyH_take (i := 1) (v := ?_) (List.getElem?_toArray.trans rfl) (by kernel_rfl) (by kernel_rfl) (by kernel_rfl) (fun _ _ _ h => h) (Or.inl ⟨by rfl, ?_⟩) hHeld ?_
  rotate_left
  · intro w' hSw; have q1 := hSw.1; have q2 := hSw.2; go_simp; try with_reducible rfl
  try simp only [Act.put, List.setIfInBounds_toArray, List.set_cons_zero, List.set_cons_succ]
  refine wpAnyH_take (i := 2) (v := ?_) (List.getElem?_toArray.trans rfl) (by kernel_rfl) (by kernel_rfl) (by kernel_rfl) (fun _ _ _ h => h) (Or.inl ⟨by rfl, ?_⟩) hHeld ?_
  rotate_left
  · intro w' hSw; have q1 := hSw.1; have q2 := hSw.2; go_simp; try with_reducible rfl
  try simp only [Act.put, List.setIfInBounds_toArray, List.set_cons_zero, List.set_cons_succ]
  refine wpAnyH_take (i := 3) (v := ?_) (List.getElem?_toArray.trans rfl) (by kernel_rfl) (by kernel_rfl) (by kernel_rfl) (fun _ _ _ h => h) (Or.inl ⟨by rfl, ?_⟩) hHeld ?_
  rotate_left
  · intro w' hSw; have q1 := hSw.1; have q2 := hSw.2; go_simp; try with_reducible rfl
  try simp only [Act.put, List.setIfInBounds_toArray, List.set_cons_zero, List.set_cons_succ]
  refine wpAnyH_take (i := 4) (v := ?_) (List.getElem?_toArray.trans rfl) (by kernel_rfl) (by kernel_rfl) (by kernel_rfl) (fun _ _ _ h => h) (Or.inl ⟨by rfl, ?_⟩) hHeld ?_
  rotate_left
  · intro w' hSw; have q1 := hSw.1; have q2 := hSw.2; go_simp; try with_reducible rfl
  try simp only [Act.put, List.setIfInBounds_toArray, List.set_cons_zero, List.set_cons_succ]
  refine wpAnyH_ready (rs := [5]) (by kernel_rfl) (by simp) ?_
  refine AllReadyH.cons (List.getElem?_toArray.trans rfl) (fun K hK => ?_) AllReadyH.nil
  go_simp
  refine hK.out _ _ (⟨by go_simp, by go_simp⟩) (fun hHeld => ?_)
  clear hK K
  try simp only [Act.put, List.setIfInBounds_toArray, List.set_cons_zero, List.set_cons_succ]
  refine wpAnyH_ready (rs := [6]) (by kernel_rfl) (by simp) ?_
  refine AllReadyH.cons (List.getElem?_toArray.trans rfl) (fun K hK => ?_) AllReadyH.nil
  go_simp
  refine hK.out _ _ (⟨by go_simp, by go_simp⟩) (fun hHeld => ?_)
  clear hK K
  try simp only [Act.put, List.setIfInBounds_toArray, List.set_cons_zero, List.set_cons_succ]
  refine wpAnyH_done (by kernel_rfl) ?_ _
  refine NoPanic.normal ?_
  subst hQ
  exact ⟨rfl, _, rfl, .tuple #[], results_none rfl _ _ _, rfl, rfl, u.drew, gb_trans g0 (gb_drew _ _), rfl⟩
end Go.Proofs.YtliiooldlooagaaGreatDoor.J10

/-
  What lays a commit on the disk (lay), over this seat's translation; conditions: the pager lies as Jf tells, its disk waits for nothing, the commit's writes and root are such as plan makes.
-/
namespace Go.Proofs.YtliiooldlooagaaGreatDoor.J10
open Go.RowKit Go.Maps
/-- The pager while its commit is laid. -/
def LayI (w wz : World) (base : Nat) (k : Bk) (g : Pg) (s : D5.St) : Prop :=
  ∃ k', k'.p = k.p ∧ k'.tb = k.tb ∧ k'.mb = k.mb ∧ k'.dp = k.dp ∧ PgV wz base k' { g with d := s } ∧ (∀ i, D5.footP k'.dp k'.vs k'.vp k'.bm i → D5.footP k.dp k.vs k.vp k.bm i ∨ w.heap.size ≤ i) ∧ D5.Kp (D5.footP k.dp k.vs k.vp k.bm) w wz
theorem LayI.start {w : World} {base : Nat} {k : Bk} {g : Pg} (h : PgV w base k g) : LayI w w base k g g.d := ⟨k, rfl, rfl, rfl, rfl, h, fun _ h => .inl h, D5.Kp.refl _ _⟩
theorem LayI.keep0 {w wz w' : World} {base : Nat} {k : Bk} {g : Pg} {s : D5.St} (h : LayI w wz base k g s) (e : wz.grownBy w' none) : LayI w w' base k g s := by
  obtain ⟨k', e1, e2, e3, e4, hp, hf, hk⟩ := h
  exact ⟨k', e1, e2, e3, e4, hp.keep0 e, hf, hk.step0 e⟩
theorem kp_in {F G : Nat → Prop} {a b c : World} (h : D5.Kp F a b) (k : D5.Kp G b c) (hG : ∀ i, G i → F i ∨ a.heap.size ≤ i) : D5.Kp F a c :=
  ⟨k.os.trans h.os, k.tape.trans h.tape, k.output.trans h.output, Nat.le_trans h.size k.size, fun i hi hf => (k.block i (Nat.lt_of_lt_of_le hi h.size) (fun e => by
    rcases hG i e with h1 | h1
    · exact hf h1
    · omega)).trans (h.block i hi hf)⟩
theorem LayI.write {w wz : World} {base N : Nat} {k : Bk} {g : Pg} {s : D5.St} (h : LayI w wz base k g s) (hok : s.Ok N) (hN : N ≤ 900000) (hb : base ≤ w.heap.size) (i : Int) (d : ByteArray) (hi : In64 i) :
    Calls Tryz.prog 65 #[.pointer (some ⟨k.dp, 0, none⟩), .int .i64 i, .string d] wz fun e w' => e = .returned (.int .i64 (D5.opE s (D5.mayW s i d))) ∧ LayI w w' base k g (D5.writeT s i d) := by
  obtain ⟨k', e1, e2, e3, e4, hp, hf, hk⟩ := h
  rw [← e4]
  refine (D5.dwrite_any wz base (D5.footP k'.dp k'.vs k'.vp k'.bm) k'.dp s i d N ⟨_, _, _, _, hp.disk, fun _ h => h⟩ hok hN (Nat.le_trans hb hk.size) hi).mono fun e w' h => ?_
  obtain ⟨h1, h2, h3⟩ := h
  obtain ⟨k2, q1, q2, q3, q4, hq, hf2⟩ := hp.disk' h3 h2
  refine ⟨h1, k2, q1.trans e1, q2.trans e2, q3.trans e3, q4.trans e4, hq, fun i hi => ?_, kp_in hk h3 hf⟩
  rcases hf2 i hi with h | h
  · exact hf i h
  · exact .inr (Nat.le_trans hk.size h.1)
theorem LayI.bar {w wz : World} {base N : Nat} {k : Bk} {g : Pg} {s : D5.St} (h : LayI w wz base k g s) (hok : s.Ok N) (hN : N ≤ 900000) :
    Calls Tryz.prog 66 #[.pointer (some ⟨k.dp, 0, none⟩)] wz fun e w' => e = .returned (.int .i64 (D5.opE s true)) ∧ LayI w w' base k g (D5.barS s) := by
  obtain ⟨k', e1, e2, e3, e4, hp, hf, hk⟩ := h
  rw [← e4]
  refine (D5.dbarrier_any wz base (D5.footP k'.dp k'.vs k'.vp k'.bm) k'.dp s N ⟨_, _, _, _, hp.disk, fun _ h => h⟩ hok hN).mono fun e w' h => ?_
  obtain ⟨h1, h2, h3⟩ := h
  obtain ⟨k2, q1, q2, q3, q4, hq, hf2⟩ := hp.disk' h3 h2
  exact ⟨h1, k2, q1.trans e1, q2.trans e2, q3.trans e3, q4.trans e4, hq, fun i hi => hf i (hf2 i hi), kp_in hk h3 hf⟩
theorem LayI.cells {w wz : World} {base : Nat} {k : Bk} {g : Pg} {s : D5.St} (h : LayI w wz base k g s) : wz.cell? ⟨k.p, 0, none⟩ = some (.pointer (some ⟨k.dp, 0, none⟩)) ∧ wz.cell? ⟨k.p, 14, none⟩ = some (.bool g.dead) ∧ (∀ o, wz.frozen? ⟨k.p, o, none⟩ = false) := by
  obtain ⟨k', e1, e2, e3, e4, hp, hf, hk⟩ := h
  obtain ⟨c0, _, _, _, _, c14, _⟩ := hp.cells
  exact ⟨by rw [← e1, ← e4]; exact c0, by rw [← e1]; exact c14, fun o => by rw [← e1]; exact hp.free o⟩
theorem LayI.blk {w wz : World} {base : Nat} {k : Bk} {g : Pg} {s : D5.St} (h : LayI w wz base k g s) {b : Nat} {t : TypeId} {cs : Array Value} (hb : Blk w b t cs) (hf : ¬ D5.footP k.dp k.vs k.vp k.bm b) : Blk wz b t cs := by
  obtain ⟨k', e1, e2, e3, e4, hp, hf', hk⟩ := h
  exact hk.blk hb hf
theorem LayI.row {w wz : World} {base lo n : Nat} {k : Bk} {g : Pg} {s : D5.St} (h : LayI w wz base k g s) {e : TypeId} {size : Nat} {v : Value} {xs : List Value} (o : w.ownsRow lo e size v n xs) (hf : ∀ i, v.ownBlock = some i → ¬ D5.footP k.dp k.vs k.vp k.bm i) : wz.ownsRow lo e size v n xs := by
  obtain ⟨k', e1, e2, e3, e4, hp, hf', hk⟩ := h
  exact hk.row o hf
/-- Begun anew, behind what is new. -/
theorem LayI.again {w wz u : World} {base : Nat} {k : Bk} {g : Pg} {s : D5.St} (h : LayI w wz base k g s) (e : wz.grownBy u none) :
    ∃ k1, k1.p = k.p ∧ k1.dp = k.dp ∧ LayI u u base k1 g s ∧ (∀ i, D5.footP k1.dp k1.vs k1.vp k1.bm i → i < wz.heap.size) ∧ ∀ w2 s2, LayI u w2 base k1 g s2 → LayI w w2 base k g s2 := by
  have hsz := e.size
  obtain ⟨k', e1, e2, e3, e4, hp, hf, hk⟩ := h
  refine ⟨k', e1, e4, ⟨k', rfl, rfl, rfl, rfl, hp.keep0 e, fun _ h => .inl h, D5.Kp.refl _ _⟩, fun i hi => hp.lt i (.inr (.inl hi)), fun w2 s2 h2 => ?_⟩
  obtain ⟨k2, q1, q2, q3, q4, hq, hf2, hk2⟩ := h2
  refine ⟨k2, q1.trans e1, q2.trans e2, q3.trans e3, q4.trans e4, hq, fun i hi => ?_, kp_in (hk.step0 e) hk2 hf⟩
  rcases hf2 i hi with h | h
  · exact hf i h
  · exact .inr (Nat.le_trans hk.size (Nat.le_trans hsz h))
theorem add_add (a : Addr) (i j : Nat) : (a.add i).add j = a.add (i + j) := by
  unfold Addr.add
  by_cases hi : i = 0
  · subst hi; simp
  · by_cases hj : j = 0
    · subst hj; simp [hi]
    · simp [hi, hj, Nat.add_assoc]
/-- A write out of a row. -/
theorem wr_cells {w : World} {lo n : Nat} {v : Value} {l : List (Int × ByteArray)} (o : w.ownsRow lo 105 2 v n (D5.wrC l)) (hn : l.length = n) {j : Nat} (hj : j < l.length) :
    ∃ a cap x, v = .slice (some a) n cap ∧ l[j]? = some x ∧ w.cell? (a.add (j * 2)) = some (.int .i64 x.1) ∧ w.cell? ⟨(a.add (j * 2)).block, (a.add (j * 2)).off + 1, none⟩ = some (.string x.2) := by
  obtain ⟨ao, cap, rfl, h2, h3, h4, h5⟩ := Sl.of_owns o
  cases ao with
  | none => have := (h4 rfl).1; omega
  | some a =>
    have hl := List.getElem?_eq_getElem hj
    obtain ⟨q0, q1⟩ := D5.wrC_at l j _ hl
    have r1 := h5 a rfl _ _ q1
    rw [← add_add] at r1
    exact ⟨a, cap, _, rfl, hl, h5 a rfl _ _ q0, r1⟩
theorem pdv_ge {w : World} {base p : Nat} {vs vp : Value} {bm : Nat} {D : DataW Unit} {s : D5.St} (h : D5.PDv w base p vs vp bm D s) : ∀ i, D5.footP p vs vp bm i → base ≤ i := by
  obtain ⟨_, ov, op, _, _, b1, b2⟩ := h
  intro i hi
  rcases hi with rfl | rfl | e | e
  · exact b1
  · exact b2
  · rcases ov.2 with ⟨rfl, _⟩ | ⟨g, cap, cur, rfl, hb, _⟩
    · cases e
    · cases e; exact hb
  · rcases op.2 with ⟨rfl, _⟩ | ⟨g, cap, cur, rfl, hb, _⟩
    · cases e
    · cases e; exact hb
theorem pl_kp {F : Nat → Prop} {w w' : World} (h : R8.Pl w) (k : D5.Kp F w w') (hF : ∀ i, F i → 4 ≤ i) : R8.Pl w' := by
  intro j hj
  have h1 := h j hj
  have hlt := World.block_lt_of_cell? w _ h1
  unfold World.cell? at h1 ⊢
  rw [k.block _ hlt (fun hf => absurd (hF _ hf) (by show ¬ 4 ≤ 0; decide))]
  exact h1
/-- What the end at a panic asks. -/
def gaveQ (ds : List Deferred) (e0 : Nat) (W : World → Prop) (Q : Exit → Act → World → Prop) : Exit → Act → World → Prop
  | .panic c, a, w => c = [pan 10 false] ∧ a.defers = ds ∧ a.tmps.getD 4 undef = .pointer (some ⟨e0, 0, none⟩) ∧ W w
  | e, a, w => Q e a w
theorem gaveQ_put {ds : List Deferred} {e0 : Nat} {W : World → Prop} {Q : Exit → Act → World → Prop} {c : List PanicEntry} {a : Act} {d : Option Tmp} {v : Value} {w : World} (hd : d ≠ some 4) (h : gaveQ ds e0 W Q (.panic c) (a.put d v) w) : gaveQ ds e0 W Q (.panic c) a w := by
  obtain ⟨h1, h2, h3, h4⟩ := h
  cases d with
  | none => exact ⟨h1, h2, h3, h4⟩
  | some d =>
    refine ⟨h1, h2, ?_, h4⟩
    have hne : d ≠ 4 := fun e => hd (by rw [e])
    rw [← h3]
    show _ = (a.tmps.setIfInBounds d v).getD 4 undef
    simp [Array.getD_eq_getD_getElem?, Array.getElem?_setIfInBounds_ne, hne]
structure LayA (w : World) (base : Nat) (k : Bk) (g : Pg) (ws : List (Int × ByteArray)) (v : Value) (lo : Nat) (r : R8.Rt) (tt tb mb : Nat) (t : T9.TB) (m : List Bool) (rb : ByteArray) (N : Nat) : Prop where
  pg : PgV w base k g
  pl : R8.Pl w
  b5 : 4 ≤ base
  off : g.d.off = false
  pend : g.d.pend = []
  ok : g.d.Ok N
  big : N + ws.length + 10 ≤ 900000
  bsz : base ≤ w.heap.size
  row : w.ownsRow lo 105 2 v ws.length (D5.wrC ws)
  rowf : ∀ i, v.ownBlock = some i → ¬ D5.footP k.dp k.vs k.vp k.bm i
  wrs : ∃ mm, Wrs g.d.secs.length mm ws
  good : R8.Good r
  rlen : r.cs.length = 8
  rbs : rb.data.toList = R8.putL r
  tt : tt < 2
  n2 : 2 ≤ g.d.secs.length
  tab : T9.PT w tb t
  map : M6.PM w mb m
  ftb : ¬ D5.footP k.dp k.vs k.vp k.bm tb
  fmb : ¬ D5.footP k.dp k.vs k.vp k.bm mb
  btb : base ≤ tb
  bmb : base ≤ mb
/-- What is so where a commit is given up: within; behind. -/
def LayP (w : World) (base : Nat) (k : Bk) (g : Pg) (ws : List (Int × ByteArray)) (tt : Nat) (rb : ByteArray) (N : Nat) (wz : World) : Prop :=
  ∃ w0 s1, w.grownBy w0 none ∧ w0.heap.size = w.heap.size + 3 ∧ Blk w0 w.heap.size 25 #[pp k.p] ∧ Blk w0 (w.heap.size + 2) 33 #[.int .i64 0] ∧ LayI w0 wz base k g s1 ∧ Crashed g.d s1 ws tt rb ∧ s1.off = true ∧ s1.Ok (N + ws.length + 3) ∧ cutAt g.d (ws.length + 2)
def LayF (w : World) (base : Nat) (k : Bk) (g : Pg) (ws : List (Int × ByteArray)) (tt : Nat) (rb : ByteArray) (N : Nat) (w' : World) : Prop :=
  ∃ s1 k', Crashed g.d s1 ws tt rb ∧ s1.off = true ∧ s1.Ok (N + ws.length + 3) ∧ k'.p = k.p ∧ k'.dp = k.dp ∧ k'.tb = k.tb ∧ k'.mb = k.mb ∧ PgV w' base k' { g with d := s1, dead := true } ∧
    (∀ i, D5.footP k'.dp k'.vs k'.vp k'.bm i → D5.footP k.dp k.vs k.vp k.bm i ∨ w.heap.size ≤ i) ∧ D5.Kp (fun i => i = k.p ∨ D5.footP k.dp k.vs k.vp k.bm i) w w'
def LayOk (w : World) (base : Nat) (k : Bk) (g : Pg) (ws : List (Int × ByteArray)) (r : R8.Rt) (tt tb mb : Nat) (t : T9.TB) (m : List Bool) (rb : ByteArray) (N : Nat) (w' : World) : Prop :=
  ∃ k', k'.p = k.p ∧ k'.dp = k.dp ∧ k'.tb = tb ∧ k'.mb = mb ∧ (atD g.d (ws.length + 3) ((D5.laidF ws g.d.secs).set tt rb) []).Ok (N + ws.length + 3) ∧ PgV w' base k' ⟨atD g.d (ws.length + 3) ((D5.laidF ws g.d.secs).set tt rb) [], r, (tt : Nat), t, m, g.dead, g.busy⟩ ∧
    (∀ i, D5.footP k'.dp k'.vs k'.vp k'.bm i → D5.footP k.dp k.vs k.vp k.bm i ∨ w.heap.size ≤ i) ∧ D5.Kp (fun i => i = k.p ∨ D5.footP k.dp k.vs k.vp k.bm i) w w'
def LayG (w : World) (base : Nat) (k : Bk) (g : Pg) (ws : List (Int × ByteArray)) (r : R8.Rt) (tt tb mb : Nat) (t : T9.TB) (m : List Bool) (rb : ByteArray) (N : Nat) (e : Ending) (w' : World) : Prop :=
  (cutAt g.d (ws.length + 2) ∧ e = .returned (.int .i64 10) ∧ LayF w base k g ws tt rb N w') ∨ (¬ cutAt g.d (ws.length + 2) ∧ e = .returned (.int .i64 0) ∧ LayOk w base k g ws r tt tb mb t m rb N w')
def layD (w : World) : Deferred := { target := .fn (.func 63) #[.pointer (some ⟨w.heap.size, 0, none⟩), .pointer (some ⟨w.heap.size + 2, 0, none⟩)], args := #[] }
/-- The end of a commit that was given up. -/
theorem lay_gave {w wz : World} {base : Nat} {k : Bk} {g : Pg} {ws : List (Int × ByteArray)} {tt : Nat} {rb : ByteArray} {N : Nat} {R : Ending → World → Prop} (h : LayP w base k g ws tt rb N wz) (hlt : ∀ i, footG k i → i < w.heap.size)
    (hR : ∀ w', LayF w base k g ws tt rb N w' → R (.returned (.int .i64 10)) w') {tmps : Array Value} (ht : tmps.getD 4 undef = .pointer (some ⟨w.heap.size + 2, 0, none⟩)) :
    Leaves Tryz.prog Tryz.f33 tmps R [layD w] (.panicking [pan 10 false]) wz := by
  obtain ⟨w0, s1, g0, hs0, bp, be, hL, hc, hoff, hok, hcut⟩ := h
  have fp : ∀ i, D5.footP k.dp k.vs k.vp k.bm i → i < w.heap.size := fun i hi => hlt i (.inr (.inl hi))
  have bp' := hL.blk bp (fun e => by have := fp _ e; omega)
  have be' := hL.blk be (fun e => by have := fp _ e; omega)
  obtain ⟨c0, c14, fz⟩ := hL.cells
  have hkp : k.p < w.heap.size := hlt _ (.inl rfl)
  refine leaves_cons (f := 63) (args := #[.pointer (some ⟨w.heap.size, 0, none⟩), .pointer (some ⟨w.heap.size + 2, 0, none⟩)]) (by simp) (by simp [go_sem]) ?_
  refine (gave_any w.heap.size (w.heap.size + 2) k.p 10 0 g.dead wz (bp'.cell 0 rfl) c14 (fz 14) (be'.cell 0 rfl) (be'.free 0) (by omega) (by omega) (by omega)).mono ?_
  rintro e u' w'' ⟨rfl, rfl, u, gu, rfl⟩
  obtain ⟨k', e1, e2, e3, e4, hp, hf, hk⟩ := hL.keep0 gu
  have be2 := be'.keep0 gu
  have h14 := hp.setDead true
  rw [e1] at h14
  have g14 := gb_set u k.p 14 none (.bool true)
  have ge := gb_set (u.setCell ⟨k.p, 14, none⟩ (.bool true)) (w.heap.size + 2) 0 none (.int .i64 10)
  have be3 := (be2.keep g14 (ne_some (by omega))).set 0 (.int .i64 10)
  refine ⟨.int .i64 10, results_cell rfl _ _ _ _ ht ?_, hR _ ⟨s1, k', hc, hoff, hok, e1, e4, e2, e3, h14.frame (kp_one ge) ?_, ?_, ?_⟩⟩
  · have hc3 := be3.cell 0 rfl
    go_simp
  · intro i hi e
    subst e
    rcases hi with h | h | h | h
    · have := h.trans e1; omega
    · rcases hf _ h with h | h
      · have := fp _ h; omega
      · omega
    · have := hlt (w.heap.size + 2) (.inr (.inr (.inl (h.trans e2)))); omega
    · have := hlt (w.heap.size + 2) (.inr (.inr (.inr (h.trans e3)))); omega
  · intro i hi
    rcases hf i hi with h | h
    · exact .inl h
    · exact .inr (by omega)
  · have q1 : D5.Kp (fun i => i = k.p ∨ D5.footP k.dp k.vs k.vp k.bm i) w u := (D5.Kp.of0 g0).trans (hk.mono (fun _ h => .inr h))
    exact (q1.step g14 (fun j hj => .inl (.inl (by cases hj; rfl)))).step ge (fun j hj => .inr (by cases hj; omega))
/-- The end of a commit that is laid. -/
theorem lay_done {w wz : World} {R : Ending → World → Prop} (be : Blk wz (w.heap.size + 2) 33 #[.int .i64 0]) (hR : R (.returned (.int .i64 0)) wz) {tmps : Array Value} (ht : tmps.getD 4 undef = .pointer (some ⟨w.heap.size + 2, 0, none⟩)) :
    Leaves Tryz.prog Tryz.f33 tmps R [layD w] .returning wz := by
  refine leaves_cons (f := 63) (args := #[.pointer (some ⟨w.heap.size, 0, none⟩), .pointer (some ⟨w.heap.size + 2, 0, none⟩)]) (by simp) (by simp [go_sem]) ?_
  refine (gave_idle w.heap.size (w.heap.size + 2) wz).mono ?_
  rintro e u' w'' ⟨rfl, rfl, rfl⟩
  have hc3 := be.cell 0 rfl
  exact ⟨.int .i64 0, results_cell rfl _ _ _ _ ht (by go_simp), hR⟩
theorem must_any (E : Int) (w : World) : Calls Tryz.prog 64 #[.int .i64 E] w fun e w' => w = w' ∧ ((E = 0 ∧ e = .returned (.tuple #[])) ∨ (E ≠ 0 ∧ e = .panicked [pan E false])) := by
  by_cases h : E = 0
  · subst h; exact (must_ok w).mono fun e w' h => ⟨h.2, .inl ⟨rfl, h.1⟩⟩
  · exact (must_no E h w).mono fun e w' h' => ⟨h'.2, .inr ⟨h, h'.1⟩⟩
theorem cm_range {w : World} {b : Nat} {v : Value} {r : R8.Rt} {wh : Int} {tb mb : Nat} (h : Blk w b 81 (cmL v r wh tb mb).toArray) (hl : r.cs.length = 8) : w.rangeAt b 1 (R8.rootC r) := by
  intro j v hj
  have hl := R8.rootC_length r hl
  have hjl := (List.getElem?_eq_some_iff.1 hj).1
  refine h.cell (1 + j) ?_
  unfold cmL
  rw [List.getElem?_toArray, Nat.add_comm 1 j, List.getElem?_cons_succ, List.getElem?_append_left (by omega)]
  exact hj
theorem cm_cells {w : World} {b : Nat} {v : Value} {r : R8.Rt} {wh : Int} {tb mb : Nat} (h : Blk w b 81 (cmL v r wh tb mb).toArray) (hl : r.cs.length = 8) :
    w.cell? ⟨b, 0, none⟩ = some v ∧ w.cell? ⟨b, 11, none⟩ = some (.int .i64 wh) ∧ w.cell? ⟨b, 12, none⟩ = some (.pointer (some ⟨tb, 0, none⟩)) ∧ w.cell? ⟨b, 13, none⟩ = some (.pointer (some ⟨mb, 0, none⟩)) := by
  obtain ⟨c0, c1, c2, c3, c4, c5, c6, c7, e⟩ := eight hl
  unfold cmL R8.rootC pp at h
  rw [e] at h
  exact ⟨h.cell 0 rfl, h.cell 11 rfl, h.cell 12 rfl, h.cell 13 rfl⟩
end Go.Proofs.YtliiooldlooagaaGreatDoor.J10
