/-
  Calls of TableKnown upon known numbers, over this seat's translation; conditions: those that each law states.
-/
import Derived.Test.YtfkkdhgggocgjaaDoorTkm
namespace Go.Proofs.YtfkkdhgggocgjaaDoor
open Go.RowKit

section
variable {w : World} {p : Nat} {s : TB} {F : List (Nat × Nat × Nat)} {O : List (Value × List Nat)} {W : World}
theorem k_isAt (a c q : Nat) (ci qi : Int) (h1 : ((c : Nat) : Int) = ci) (h2 : ((q : Nat) : Int) = qi) (hm : (a, c, q) ∈ F) (hc : (ci == 0) = false) (h : Ks w p s F O W) :
    Calls Tryd.prog 13 #[.iface 67 (.pointer (some ⟨a, 0, none⟩)), .agg #[.int .i64 ci, .int .i64 qi]] W fun e W' => e = .returned (.bool true) ∧ Ks w p s F O W' := by
  subst h1; subst h2; exact k_is a c q hm hc h
theorem k_dirtyN (l : List Nat) (n : Nat) (hn : l.length = n) (hE : dirtyF s.D = l) (h : Ks w p s F O W) :
    Calls Tryd.prog 25 #[.pointer (some ⟨p, 0, none⟩)] W fun e W' => ∃ ao cap, e = .returned (.slice ao n cap) ∧ Ks w p s F ((.slice ao n cap, l) :: O) W' := by
  subst hn; exact k_dirty l hE h
theorem k_sectorsN (l : List Nat) (n : Nat) (hn : l.length = n) (hE : secsF s.P = l) (h : Ks w p s F O W) :
    Calls Tryd.prog 26 #[.pointer (some ⟨p, 0, none⟩)] W fun e W' => ∃ ao cap, e = .returned (.slice ao n cap) ∧ Ks w p s F ((.slice ao n cap, l) :: O) W' := by
  subst hn; exact k_sectors l hE h
theorem k_int7 (v : Value) (hm : (v, [7]) ∈ O) (h : Ks w p s F O W) :
    Calls Tryd.prog 28 #[v, .slice (some ⟨W.heap.size, 0, none⟩) 1 1] (W.alloc (.cells #[.int .i64 7] 3)) fun e W' => e = .returned (.bool true) ∧ Ks w p s F O W' :=
  k_ints v [7] (by decide) 1 rfl hm h
theorem k_chunkAt (i : Int) (n : Nat) (hn : (⟨(chunkF s.P i).toArray⟩ : ByteArray).size = n) (h : Ks w p s F O W) :
    Calls Tryd.prog 24 #[.pointer (some ⟨p, 0, none⟩), .int .i64 i] W fun e W' => ∃ t : ByteArray, e = .returned (.string t) ∧ t.size = n ∧ Ks w p s F O W' :=
  (k_chunk i h).mono fun _ _ x => ⟨_, x.1, hn, x.2⟩
end
end Go.Proofs.YtfkkdhgggocgjaaDoor

