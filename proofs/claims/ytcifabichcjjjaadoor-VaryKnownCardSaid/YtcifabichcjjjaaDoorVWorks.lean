/-
  What the statements' own 'works' answers, over this seat's translation: true; condition: the variable errors.errorType holds its type's handle.
-/
import Derived.Test.YtcifabichcjjjaaDoorVTold
namespace Go.Proofs.YtcifabichcjjjaaDoor
open Go.RowKit

def wkF : List Fd := [⟨1, false, 0, ⟨#[]⟩⟩, ⟨2, true, 0, ⟨#[97, 98]⟩⟩, ⟨63, false, 256, ⟨#[]⟩⟩]
theorem wk_putS : putS wkF = ([2, 0, 5, 1, 2, 97, 98, 126, 2, 1, 0], 0) := by decide +kernel
theorem wk_readS : readS [2, 0, 5, 1, 2, 97, 98, 126, 2, 1, 0] = .ok wkF := by kernel_rfl
theorem wk_badS : readS [2, 1, 0] = .error (5, 0) := by kernel_rfl
theorem fs_of_block {W : World} {b : Nat} {cs : Array Value} {t : TypeId} {fr : Nat × Nat} (hb : W.heap[b]? = some (.cells cs t fr)) (l : List Fd) (hc : cs.toList = fcells l) : Fs W (.slice (some ⟨b, 0, none⟩) l.length l.length) l := by
  refine ⟨some ⟨b, 0, none⟩, l.length, rfl, Nat.le_refl _, (fun e => by cases e), fun a e j u hj => ?_⟩
  cases e
  have hadd : (⟨b, 0, none⟩ : Addr).add j = ⟨b, j, none⟩ := by unfold Addr.add; split <;> simp [*]
  rw [hadd]
  simp only [World.cell?, hb]
  rw [← hc] at hj
  simpa using hj
theorem wk_ok : ∀ f ∈ wkF, f.ok := by
  intro f hf
  simp [wkF] at hf
  rcases hf with rfl | rfl | rfl <;> refine ⟨by decide, by decide, by decide, by decide⟩
theorem wk_put (W : World) (b : Nat) (hb : W.heap[b]? = some (.cells #[.int .i64 1, .bool false, .int .u64 0, .string ⟨#[]⟩, .int .i64 2, .bool true, .int .u64 0, .string ⟨#[97, 98]⟩, .int .i64 63, .bool false, .int .u64 256, .string ⟨#[]⟩] 29 (0, 0))) :
    Calls Tryd.prog 9 #[.slice (some ⟨b, 0, none⟩) 3 3] W fun e w' => e = .returned (.tuple #[.string ⟨#[2, 0, 5, 1, 2, 97, 98, 126, 2, 1, 0]⟩, .int .i64 0]) ∧ W.grownBy w' none := by
  refine (put_any (.slice (some ⟨b, 0, none⟩) 3 3) wkF W (fs_of_block hb wkF rfl) wk_ok (by decide)).mono ?_
  rintro e w' ⟨h1, h2⟩
  rw [wk_putS] at h1
  exact ⟨h1, h2⟩
/-- The first text's fields. -/
def WkRead (W : World) (e : Ending) (w' : World) : Prop :=
  ∃ a cap, e = .returned (.tuple #[.slice (some a) 3 cap, .nilIface]) ∧ 3 ≤ cap ∧ W.grownBy w' none ∧ At w' a 1 ⟨2, true, 0, ⟨#[97, 98]⟩⟩ ∧ At w' a 2 ⟨63, false, 256, ⟨#[]⟩⟩
theorem wk_read (W : World) :
    Calls Tryd.prog 15 #[.string ⟨#[2, 0, 5, 1, 2, 97, 98, 126, 2, 1, 0]⟩] W (WkRead W) := by
  refine (read_any ⟨#[2, 0, 5, 1, 2, 97, 98, 126, 2, 1, 0]⟩ W (by decide)).mono ?_
  rintro e w' ⟨h1, h2⟩
  rw [show (⟨#[2, 0, 5, 1, 2, 97, 98, 126, 2, 1, 0]⟩ : ByteArray).data.toList = [2, 0, 5, 1, 2, 97, 98, 126, 2, 1, 0] from rfl, wk_readS] at h2
  obtain ⟨v, rfl, ao, cap, rfl, hc, hn, hcell⟩ := h2
  cases ao with
  | none => have := (hn rfl).1; simp [wkF] at this
  | some a => exact ⟨a, cap, rfl, hc, h1, at_of (hcell a rfl) (i := 1) rfl, at_of (hcell a rfl) (i := 2) rfl⟩
/-- A Fault was read. -/
def WkBad (W : World) (c p : Nat) (e : Ending) (w' : World) : Prop :=
  ∃ a, e = .returned (.tuple #[.slice none 0 0, .iface 69 (.pointer (some ⟨a, 0, none⟩))]) ∧ Ft w' a c p ∧ W.grownBy w' none
theorem wk_bad (W : World) :
    Calls Tryd.prog 15 #[.string ⟨#[2, 1, 0]⟩] W (WkBad W 5 0) := by
  refine (read_any ⟨#[2, 1, 0]⟩ W (by decide)).mono ?_
  rintro e w' ⟨h1, h2⟩
  rw [show (⟨#[2, 1, 0]⟩ : ByteArray).data.toList = [2, 1, 0] from rfl, wk_badS] at h2
  obtain ⟨a, rfl, hf⟩ := h2
  exact ⟨a, rfl, hf, h1⟩
theorem wk_told (a : Nat) (w : World) (hd : Hd w) (hf : Ft w a 5 0) :
    Calls Tryd.prog 17 #[.iface 69 (.pointer (some ⟨a, 0, none⟩)), .agg #[.int .i64 5, .int .i64 0]] w fun e w' => e = .returned (.bool true) ∧ w.grownBy w' none :=
  told_fault a 5 0 w hd hf rfl

set_option maxRecDepth 100000 in
set_option maxHeartbeats 2000000 in
theorem works_any (w : World) (hd : Hd w) : Calls Tryd.prog 13 #[] w fun e w' => e = .returned (.bool true) ∧ w.grownBy w' none := by
  go_enter Tryd.func13, Tryd.ntmps13
  go_wp2_with fail
  ((with_reducible refine (wk_put _ w.heap.size (heap_alloc_new w _)).mono ?_); rintro e w1 ⟨rfl, g1⟩)
  replace g1 := gb_trans (gb_alloc w _ none) g1
  go_wp2_with fail
  ((with_reducible refine (wk_read _).mono ?_); rintro e w2 ⟨a2, cap2, rfl, hc2, g2, at1, at2⟩)
  replace g2 := gb_trans g1 g2
  clear g1
  go_wp2_with fail
  ((with_reducible refine (wk_bad _).mono ?_); rintro e w3 ⟨a3, rfl, f3, g3⟩)
  have s1 : w3.cell? ⟨a2.block, a2.off + 4 + 3, none⟩ = some (.string ⟨#[97, 98]⟩) := g3.cell at1.2.2.2 (by simp)
  have n2 : w3.cell? ⟨a2.block, a2.off + 8 + 2, none⟩ = some (.int .u64 256) := g3.cell at2.2.2.1 (by simp)
  replace g3 := gb_trans g2 g3
  have d3 := hd.keep0 g3
  clear g2 at1 at2
  go_wp2_with fail
  ((with_reducible refine (wk_told a3 _ d3 f3).mono ?_); rintro e w4 ⟨rfl, g4⟩)
  go_wp2
  go_ret
  exact ⟨rfl, gb_trans g3 g4⟩
end Go.Proofs.YtcifabichcjjjaaDoor
