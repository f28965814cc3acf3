/-
  The map's Copy, Put, and the words of bytes, over this seat's translation; conditions: those that each law states.
-/
import Derived.Test.YtaihcbkdbdhihaaDoorMn
namespace Go.Proofs.YtaihcbkdbdhihaaDoor
open Go.RowKit

theorem wordsC_list (N : Nat) : wordsC N = [.int .u64 (wd N 0 : Nat), .int .u64 (wd N 1 : Nat), .int .u64 (wd N 2 : Nat), .int .u64 (wd N 3 : Nat), .int .u64 (wd N 4 : Nat), .int .u64 (wd N 5 : Nat), .int .u64 (wd N 6 : Nat), .int .u64 (wd N 7 : Nat), .int .u64 (wd N 8 : Nat), .int .u64 (wd N 9 : Nat), .int .u64 (wd N 10 : Nat), .int .u64 (wd N 11 : Nat), .int .u64 (wd N 12 : Nat), .int .u64 (wd N 13 : Nat), .int .u64 (wd N 14 : Nat), .int .u64 (wd N 15 : Nat)] := rfl
set_option maxHeartbeats 2000000 in
theorem copy_any (p : Nat) (us : List Bool) (w : World) (h : PM w p us) :
    Calls Tryd.prog 17 #[.pointer (some ⟨p, 0, none⟩)] w fun e w' => e = .returned (.pointer (some ⟨w.heap.size, 0, none⟩)) ∧ PM w' w.heap.size us ∧ w.grownBy w' none := by
  have hc := h.things
  have h0 := h.word 0 (by decide)
  have h1 := h.word 1 (by decide)
  have h2 := h.word 2 (by decide)
  have h3 := h.word 3 (by decide)
  have h4 := h.word 4 (by decide)
  have h5 := h.word 5 (by decide)
  have h6 := h.word 6 (by decide)
  have h7 := h.word 7 (by decide)
  have h8 := h.word 8 (by decide)
  have h9 := h.word 9 (by decide)
  have h10 := h.word 10 (by decide)
  have h11 := h.word 11 (by decide)
  have h12 := h.word 12 (by decide)
  have h13 := h.word 13 (by decide)
  have h14 := h.word 14 (by decide)
  have h15 := h.word 15 (by decide)
  have hfin : ∀ W : World, w.grownBy W none → W.heap.size = w.heap.size → PM (W.alloc (.cells (Value.int .i64 (us.length : Nat) :: wordsC (natOf us)).toArray 59)) w.heap.size us ∧ w.grownBy (W.alloc (.cells (Value.int .i64 (us.length : Nat) :: wordsC (natOf us)).toArray 59)) none := by
    intro W g hs
    refine ⟨?_, gb_trans g (gb_alloc _ _ _)⟩
    rw [← hs]
    exact Blk.mk W _ _
  rw [wordsC_list] at hfin
  generalize wd (natOf us) 0 = x0 at *
  generalize wd (natOf us) 1 = x1 at *
  generalize wd (natOf us) 2 = x2 at *
  generalize wd (natOf us) 3 = x3 at *
  generalize wd (natOf us) 4 = x4 at *
  generalize wd (natOf us) 5 = x5 at *
  generalize wd (natOf us) 6 = x6 at *
  generalize wd (natOf us) 7 = x7 at *
  generalize wd (natOf us) 8 = x8 at *
  generalize wd (natOf us) 9 = x9 at *
  generalize wd (natOf us) 10 = x10 at *
  generalize wd (natOf us) 11 = x11 at *
  generalize wd (natOf us) 12 = x12 at *
  generalize wd (natOf us) 13 = x13 at *
  generalize wd (natOf us) 14 = x14 at *
  generalize wd (natOf us) 15 = x15 at *
  have HF := Lib.hid hfin
  clear hfin h
  simp only [Nat.add_zero, Nat.reduceAdd] at h0 h1 h2 h3 h4 h5 h6 h7 h8 h9 h10 h11 h12 h13 h14 h15
  go_enter Tryd.func17, Tryd.ntmps17
  go_wp2
  go_region
  all_goals
    go_wp2
    go_ret
    have h := HF.out w (gb_refl _ _) rfl
    exact ⟨rfl, h.1.keep0 (gb_drew _ _), gb_trans h.2 (gb_drew _ _)⟩
end Go.Proofs.YtaihcbkdbdhihaaDoor
