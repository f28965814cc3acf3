/-
  What errors.Is answers, by Go's own text of it, of nil and of a *api.Fault whose Code is the target: contracts over this seat's translation; condition: the Fault's first cell holds the Code.
-/
import Derived.Test.YtfkkdhgggocgjaaDoorErr
namespace Go
section
variable {P : Program} (w : World)
theorem eqlIn_errno (d : Nat) {ti tn : TypeId} {ms : Array (String × TypeId)} {i : TypeInfo} {k : IntKind} (a b : Int)
    (hi : P.underlying ti = some (.interface ms)) (hn : P.underlying tn = some (.int k)) (hinfo : P.info? tn = some i) (hcomp : i.comparable = true) :
    (Op.equalIn (d + 2) ti (.iface tn (.int k a)) (.iface tn (.int k b))).run P w = .ok (a == b) w := by
  simp [Op.equalIn, run_underlying hi, run_underlying hn, typeInfo, hinfo, hcomp]
theorem eql_errno {ti tn : TypeId} {ms : Array (String × TypeId)} {i : TypeInfo} {k : IntKind} (a b : Int)
    (hi : P.underlying ti = some (.interface ms)) (hn : P.underlying tn = some (.int k)) (hinfo : P.info? tn = some i) (hcomp : i.comparable = true) :
    (binOp .eql ti (.iface tn (.int k a)) (.iface tn (.int k b))).run P w = .ok (.bool (a == b)) w := by
  simp only [binOp]
  simp [Op.equal, Op.maxDepth, eqlIn_errno w 9998 a b hi hn hinfo hcomp]
theorem eql_errno_same {ti tn : TypeId} {ms : Array (String × TypeId)} {k : IntKind} (a : Int)
    (hi : P.underlying ti = some (.interface ms)) (hn : P.underlying tn = some (.int k)) (hc : (P.info? tn).map (·.comparable) = some true) :
    (binOp .eql ti (.iface tn (.int k a)) (.iface tn (.int k a))).run P w = .ok (.bool true) w := by
  obtain ⟨i, hi2, hc2⟩ := Option.map_eq_some_iff.1 hc
  rw [eql_errno w a a hi hn hi2 hc2]; simp
end
end Go
namespace Go.Proofs.YtfkkdhgggocgjaaDoor
open Go.RowKit Go.Extern.Stop Go.Stop Go.Extern

theorem Tryd.noIsP (v : Value) (xT : TypeId) (w : World) : (Instr.typeAssert (.iface 67 v) xT 115 true).run Tryd.prog w = .ok (.tuple #[.nilIface, .bool false]) w :=
  run_typeAssert_lacksB Tryd.underlying115 (by kernel_rfl) (by kernel_rfl) v xT w
theorem Tryd.unwrapsP (v : Value) (xT : TypeId) (w : World) : (Instr.typeAssert (.iface 67 v) xT 110 true).run Tryd.prog w = .ok (.tuple #[.iface 67 v, .bool true]) w :=
  run_typeAssert_hasB Tryd.underlying110 (by kernel_rfl) v xT w
theorem Tryd.methodUnwrap (h : Value) (w : World) : (Go.method 257 67 h "Unwrap").run Tryd.prog w = .ok (84, h) w := by kernel_rfl
theorem Tryd.eqlPE (v x : Value) (w : World) : (binOp .eql 37 (.iface 67 v) (.iface 30 x)).run Tryd.prog w = .ok (.bool false) w :=
  run_eql_iface_types 67 30 v x Tryd.underlying37 (by decide) w
theorem Tryd.eqlEE (n : Int) (w : World) : (binOp .eql 37 (.iface 30 (.int .i64 n)) (.iface 30 (.int .i64 n))).run Tryd.prog w = .ok (.bool true) w :=
  eql_errno_same w n Tryd.underlying37 Tryd.underlying30 (by kernel_rfl)
/-- What the model lays for (rtype).Comparable. -/
def cmpE : Array Value → Sem Value := ReflectliteType.method fun t => do Rtype.noPackHeld "Comparable" t; pure (.bool (← typeInfo t).comparable)
theorem Tryd.comparableE (w : World) : (cmpE #[.agg #[.pointer (some ⟨1, 30, none⟩)]]).run Tryd.prog w = .ok (.bool true) w := by kernel_rfl

set_option maxRecDepth 100000 in
/-- errors.Is(nil, an Errno). -/
theorem is_nil (v : Value) (w : World) :
    Calls Tryd.prog 35 #[.nilIface, .iface 30 v] w fun e w' => e = .returned (.bool false) ∧ w' = w := by
  have q0 := fun w => @run_eql_iface_nil_left Tryd.prog w 37 _ 30 v Tryd.underlying37
  go_enter Tryd.func35, Tryd.ntmps35
  go_wp2
  go_ret
  exact ⟨rfl, rfl⟩

set_option maxRecDepth 100000 in
set_option maxHeartbeats 4000000 in
/-- errors.Is(a Fault, its Code). -/
theorem is_hit (a : Addr) (n : Int) (w : World) (hc : w.cell? a = some (.int .i64 n)) :
    Calls Tryd.prog 35 #[.iface 67 (.pointer (some a)), .iface 30 (.int .i64 n)] w fun e w' => e = .returned (.bool true) ∧ w' = w := by
  have h10 := @run_callFunc_extern Tryd.prog 48 _ ReflectliteType.typeOf Tryd.func48 (by kernel_rfl) (by kernel_rfl) (by kernel_rfl) (by kernel_rfl)
  have h83 := @run_callFunc_extern Tryd.prog 90 _ (cmpE) Tryd.func90 (by kernel_rfl) (by kernel_rfl) (by kernel_rfl) (by kernel_rfl)
  have tO := Tryd.typeOfE
  have mC := Tryd.methodComparable
  have cE := Tryd.comparableE
  have n1 := Tryd.noIsP
  have n2 := Tryd.unwrapsP
  have mU := Tryd.methodUnwrap
  have q1 := Tryd.eqlPE
  have q2 := Tryd.eqlEE
  go_enter Tryd.func35, Tryd.ntmps35
  go_wp2
  refine wp_loop_rounds 2 ?_
  rw [rounds_succ]
  go_wp2
  rw [rounds_succ]
  go_wp2
  go_ret
  exact ⟨rfl, rfl⟩
end Go.Proofs.YtfkkdhgggocgjaaDoor

