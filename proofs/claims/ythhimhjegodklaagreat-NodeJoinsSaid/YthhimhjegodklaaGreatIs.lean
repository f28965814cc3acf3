/-
  What errors.Is answers, by Go's own text of it, of nil and of a *api.Fault whose Code is the target: contracts over this seat's translation; condition: the Fault's first cell holds the Code.
-/
import Derived.Test.YthhimhjegodklaaGreatErr
namespace Go
section
variable {P : Program} (w : World)
theorem eqlIn_errno (d : Nat) {ti tn : TypeId} {ms : Array (String × TypeId)} {i : TypeInfo} {k : IntKind} (a b : Int)
    (hi : P.underlying ti = some (.interface ms)) (hn : P.underlying tn = some (.int k)) (hinfo : P.info? tn = some i) (hcomp : i.comparable = true) :
    (Op.equalIn (d + 2) ti (.iface tn (.int k a)) (.iface tn (.int k b))).run P w = .ok (a == b) w := by
  simp [Op.equalIn, run_underlying hi, run_underlying hn, typeInfo, hinfo, hcomp]
theorem eql_errno {ti tn : TypeId} {ms : Array (String × TypeId)} {i : TypeInfo} {k : IntKind} (a b : Int)
    (hi : P.underlying ti = some (.interface ms)) (hn : P.underlying tn = some (.int k)) (hinfo : P.info? tn = some i) (hcomp : i.comparable = true) :
    (binOp .eql ti (.iface tn (.int k a)) (.iface tn (.int k b))).run P w = .ok (.bool (a == b)) w := by
  simp only [binOp]
  simp [Op.equal, Op.maxDepth, eqlIn_errno w 9998 a b hi hn hinfo hcomp]
theorem eql_errno_same {ti tn : TypeId} {ms : Array (String × TypeId)} {k : IntKind} (a : Int)
    (hi : P.underlying ti = some (.interface ms)) (hn : P.underlying tn = some (.int k)) (hc : (P.info? tn).map (·.comparable) = some true) :
    (binOp .eql ti (.iface tn (.int k a)) (.iface tn (.int k a))).run P w = .ok (.bool true) w := by
  obtain ⟨i, hi2, hc2⟩ := Option.map_eq_some_iff.1 hc
  rw [eql_errno w a a hi hn hi2 hc2]; simp
end
end Go
namespace Go.Proofs.YthhimhjegodklaaGreat
open Go.RowKit Go.Extern.Stop Go.Stop Go.Extern

theorem Tryz.noIsP (v : Value) (xT : TypeId) (w : World) : (Instr.typeAssert (.iface 78 v) xT 115 true).run Tryz.prog w = .ok (.tuple #[.nilIface, .bool false]) w :=
  run_typeAssert_lacksB Tryz.underlying115 (by kernel_rfl) (by kernel_rfl) v xT w
theorem Tryz.unwrapsP (v : Value) (xT : TypeId) (w : World) : (Instr.typeAssert (.iface 78 v) xT 118 true).run Tryz.prog w = .ok (.tuple #[.iface 78 v, .bool true]) w :=
  run_typeAssert_hasB Tryz.underlying118 (by kernel_rfl) v xT w
theorem Tryz.methodUnwrap (h : Value) (w : World) : (Go.method 282 78 h "Unwrap").run Tryz.prog w = .ok (136, h) w := by kernel_rfl
theorem Tryz.eqlPE (v x : Value) (w : World) : (binOp .eql 45 (.iface 78 v) (.iface 40 x)).run Tryz.prog w = .ok (.bool false) w :=
  run_eql_iface_types 78 40 v x Tryz.underlying45 (by decide) w
theorem Tryz.eqlEE (n : Int) (w : World) : (binOp .eql 45 (.iface 40 (.int .i64 n)) (.iface 40 (.int .i64 n))).run Tryz.prog w = .ok (.bool true) w :=
  eql_errno_same w n Tryz.underlying45 Tryz.underlying40 (by kernel_rfl)
/-- What the model lays for (rtype).Comparable. -/
def cmpE : Array Value → Sem Value := ReflectliteType.method fun t => do Rtype.noPackHeld "Comparable" t; pure (.bool (← typeInfo t).comparable)
theorem Tryz.comparableE (w : World) : (cmpE #[.agg #[.pointer (some ⟨0, 40, none⟩)]]).run Tryz.prog w = .ok (.bool true) w := by kernel_rfl

set_option maxRecDepth 100000 in
/-- errors.Is(nil, an Errno). -/
theorem is_nil (v : Value) (w : World) :
    Calls Tryz.prog 70 #[.nilIface, .iface 40 v] w fun e w' => e = .returned (.bool false) ∧ w' = w := by
  have q0 := fun w => @run_eql_iface_nil_left Tryz.prog w 45 _ 40 v Tryz.underlying45
  go_enter Tryz.func70, Tryz.ntmps70
  go_wp2
  go_ret
  exact ⟨rfl, rfl⟩

set_option maxRecDepth 100000 in
set_option maxHeartbeats 4000000 in
/-- errors.Is(a Fault, its Code). -/
theorem is_hit (a : Addr) (n : Int) (w : World) (hc : w.cell? a = some (.int .i64 n)) :
    Calls Tryz.prog 70 #[.iface 78 (.pointer (some a)), .iface 40 (.int .i64 n)] w fun e w' => e = .returned (.bool true) ∧ w' = w := by
  have h10 := @run_callFunc_extern Tryz.prog 72 _ ReflectliteType.typeOf Tryz.func72 (by kernel_rfl) (by kernel_rfl) (by kernel_rfl) (by kernel_rfl)
  have h83 := @run_callFunc_extern Tryz.prog 140 _ (cmpE) Tryz.func140 (by kernel_rfl) (by kernel_rfl) (by kernel_rfl) (by kernel_rfl)
  have tO := Tryz.typeOfE
  have mC := Tryz.methodComparable
  have cE := Tryz.comparableE
  have n1 := Tryz.noIsP
  have n2 := Tryz.unwrapsP
  have mU := Tryz.methodUnwrap
  have q1 := Tryz.eqlPE
  have q2 := Tryz.eqlEE
  go_enter Tryz.func70, Tryz.ntmps70
  go_wp2
  refine wp_loop_rounds 2 ?_
  rw [rounds_succ]
  go_wp2
  rw [rounds_succ]
  go_wp2
  go_ret
  exact ⟨rfl, rfl⟩
end Go.Proofs.YthhimhjegodklaaGreat

