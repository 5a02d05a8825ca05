import Derived.Test.YtcomelbphdjnnaaGreatDoorJ14
import Derived.LoopN
import Derived.Test.YtcomelbphdjnnaaGreatDoorJ11
/-
  SCRIPT: errors.As at the two kinds of errors.
-/
namespace Go.Proofs.YtcomelbphdjnnaaGreatDoor.Sc
open Go.RowKit Mr Go.Extern.Stop Go.Stop Go.Extern
set_option linter.unusedVariables false
set_option linter.unusedSimpArgs false
set_option maxRecDepth 100000
theorem set_f (ta b : Addr) (n : Int) (old : Value) (W : World) (hb : W.cell? b = some (.int .i64 n)) (ht : W.cell? ta = some old) (hf : W.frozen? ta = false) :
    (ReflectliteValue.set #[.agg #[.pointer (some ⟨7, 77, none⟩), .pointer (some ta), .int .u64 386], .agg #[.pointer (some ⟨7, 77, none⟩), .pointer (some b), .int .u64 130]]).run Tryz.prog W = .ok (.tuple #[]) (W.setCell ta (.int .i64 n)) := by
  rw [set_rf]
  simp [loadVar, isAgg, underlying, Tryz.underlying77, hb, Result.andThen, storeVar, Value.cells, storeCells, Addr.add]
  rw [run_store Tryz.prog W ta _ _ (by rfl)]
  simp [ht, hf]
theorem set_l (bt bs : Nat) (k : Int) (ty : TypeId) (v : Value) (o0 o1 : Value) (W : World) (hb : W.cell? ⟨bs, 0, none⟩ = some (.int .i64 k)) (hb1 : W.cell? ⟨bs, 1, none⟩ = some (.iface ty v)) (ht : W.cell? ⟨bt, 0, none⟩ = some o0) (ht1 : W.cell? ⟨bt, 1, none⟩ = some o1) (hf : W.frozen? ⟨bt, 0, none⟩ = false) (hf1 : W.frozen? ⟨bt, 1, none⟩ = false) :
    (ReflectliteValue.set #[.agg #[.pointer (some ⟨7, 82, none⟩), .pointer (some ⟨bt, 0, none⟩), .int .u64 409], .agg #[.pointer (some ⟨7, 82, none⟩), .pointer (some ⟨bs, 0, none⟩), .int .u64 153]]).run Tryz.prog W = .ok (.tuple #[]) ((W.setCell ⟨bt, 0, none⟩ (.int .i64 k)).setCell ⟨bt, 1, none⟩ (.iface ty v)) := by
  rw [set_rl]
  simp [loadVar, isAgg, underlying, Tryz.underlying82, hb, hb1, Result.andThen, storeVar, Value.cells, storeCells, Addr.add, loadCells, loadCellsFrom]
  rw [run_store Tryz.prog W _ _ _ (by rfl)]
  simp [ht, hf, Result.andThen]
  rw [run_store Tryz.prog _ _ _ _ (by rfl)]
  have h2 : (W.setCell ⟨bt, 0, none⟩ (.int .i64 k)).cell? ⟨bt, 1, none⟩ = some o1 := by simp [*, go_sem]
  have h3 : (W.setCell ⟨bt, 0, none⟩ (.int .i64 k)).frozen? ⟨bt, 1, none⟩ = false := by simp [*, go_sem]
  simp [h2, h3]
theorem miss_f (v : Value) (xT : TypeId) (w : World) : (Instr.typeAssert (.iface 77 v) xT 132 true).run Tryz.prog w = .ok (.tuple #[.nilIface, .bool false]) w := run_typeAssert_lacksB Tryz.underlying132 (by kernel_rfl) (by kernel_rfl) v xT w
theorem miss_l (v : Value) (xT : TypeId) (w : World) : (Instr.typeAssert (.iface 82 v) xT 132 true).run Tryz.prog w = .ok (.tuple #[.nilIface, .bool false]) w := run_typeAssert_lacksB Tryz.underlying132 (by kernel_rfl) (by kernel_rfl) v xT w
theorem unw_f (v : Value) (xT : TypeId) (w : World) : (Instr.typeAssert (.iface 77 v) xT 135 true).run Tryz.prog w = .ok (.tuple #[.nilIface, .bool false]) w := run_typeAssert_lacksB Tryz.underlying135 (by kernel_rfl) (by kernel_rfl) v xT w
theorem unws_f (v : Value) (xT : TypeId) (w : World) : (Instr.typeAssert (.iface 77 v) xT 137 true).run Tryz.prog w = .ok (.tuple #[.nilIface, .bool false]) w := run_typeAssert_lacksB Tryz.underlying137 (by kernel_rfl) (by kernel_rfl) v xT w
theorem unw_l (v : Value) (xT : TypeId) (w : World) : (Instr.typeAssert (.iface 82 v) xT 135 true).run Tryz.prog w = .ok (.tuple #[.iface 82 v, .bool true]) w := run_typeAssert_hasB Tryz.underlying135 (by kernel_rfl) v xT w
/- contracts -/
theorem unwrap_any (k : Int) (t : TypeId) (v : Value) (w : World) : Calls Tryz.prog 144 #[.agg #[.int .i64 k, .iface t v]] w fun e w' => e = .returned (.iface t v) ∧ w' = w.alloc (.cells #[.int .i64 k, .iface t v] 82) := by
  go_enter Tryz.func144, Tryz.ntmps144
  go_wp2
  go_ret
  exact ⟨rfl, rfl⟩
set_option maxHeartbeats 8000000 in
theorem as_ff (n : Int) (b : Nat) (old : Value) (w : World) (hg : EtAt w) (ht : w.cell? ⟨b, 0, none⟩ = some old) (hf : w.frozen? ⟨b, 0, none⟩ = false) (hbl : b < w.heap.size) :
    Calls Tryz.prog 37 #[.iface 77 (.int .i64 n), .iface 85 (.pointer (some ⟨b, 0, none⟩))] w fun e w' => e = .returned (.bool true) ∧ ∃ w2, Below w.heap.size w w2 ∧ w' = w2.setCell ⟨b, 0, none⟩ (.int .i64 n) := by
  have h6 := @run_callFunc_extern Tryz.prog 51 _ (fun args => ReflectliteValue.unpack (args.getD 0 (.tuple #[]))) Tryz.func51 (by kernel_rfl) (by kernel_rfl) (by kernel_rfl) (by kernel_rfl)
  have h7 := @run_callFunc_extern Tryz.prog 52 _ (ReflectliteValue.methodAny (ReflectliteValue.valueError "reflectlite.Value.Type" 0) (fun t _ _ _ => ReflectliteType.toType t)) Tryz.func52 (by kernel_rfl) (by kernel_rfl) (by kernel_rfl) (by kernel_rfl)
  have h8 := @run_callFunc_extern Tryz.prog 53 _ (ReflectliteValue.method (ReflectliteValue.valueError "reflectlite.Value.IsNil" 0) ReflectliteValue.isNil) Tryz.func53 (by kernel_rfl) (by kernel_rfl) (by kernel_rfl) (by kernel_rfl)
  have h27 := @run_callFunc_extern Tryz.prog 138 _ (ReflectliteType.abiMethod fun t => do pure (.int .u8 (← Rtype.kind t))) Tryz.func138 (by kernel_rfl) (by kernel_rfl) (by kernel_rfl) (by kernel_rfl)
  have h37 := @run_callFunc_extern Tryz.prog 151 _ (ReflectliteType.method ReflectliteType.elem) Tryz.func151 (by kernel_rfl) (by kernel_rfl) (by kernel_rfl) (by kernel_rfl)
  have h38 := @run_callFunc_extern Tryz.prog 152 _ (ReflectliteType.relation "Implements" ReflectliteType.implements_) Tryz.func152 (by kernel_rfl) (by kernel_rfl) (by kernel_rfl) (by kernel_rfl)
  have h10 := @run_callFunc_extern Tryz.prog 68 _ ReflectliteType.typeOf Tryz.func68 (by kernel_rfl) (by kernel_rfl) (by kernel_rfl) (by kernel_rfl)
  have h35 := @run_callFunc_extern Tryz.prog 149 _ (ReflectliteType.relation "AssignableTo" ReflectliteType.assignableTo) Tryz.func149 (by kernel_rfl) (by kernel_rfl) (by kernel_rfl) (by kernel_rfl)
  have h11 := @run_callFunc_extern Tryz.prog 69 _ (ReflectliteValue.method (ReflectliteValue.valueError "reflectlite.Value.Elem" 0) ReflectliteValue.elem) Tryz.func69 (by kernel_rfl) (by kernel_rfl) (by kernel_rfl) (by kernel_rfl)
  have h12 := @run_callFunc_extern Tryz.prog 70 _ ReflectliteValue.set Tryz.func70 (by kernel_rfl) (by kernel_rfl) (by kernel_rfl) (by kernel_rfl)
  have e3 := m_kind
  have e4 := m_elem
  have e5 := m_impl
  have e6 := m_asgn
  have e1 := vo_pf
  have e2 := ty_pf
  have e7 := k_pf
  have e8 := k_f
  have e9 := el_pf
  have e10 := im_f
  have e11 := to_f
  have e12 := as_f_f
  have e13 := vo_f
  have hlt := hg.lt
  unfold EtAt at hg
  have n8 := nil_pf ⟨w.heap.size, 0, none⟩ ⟨b, 0, none⟩ ((w.alloc (.cells #[.pointer (some ⟨b, 0, none⟩)] 85)).alloc (.cells #[.pointer (some ⟨7, 85, none⟩), .pointer (some ⟨w.heap.size, 0, none⟩), .int .u64 150] 101)) (by simp)
  have hg2 : ((w.alloc (.cells #[.pointer (some ⟨b, 0, none⟩)] 85)).alloc (.cells #[.pointer (some ⟨7, 85, none⟩), .pointer (some ⟨w.heap.size, 0, none⟩), .int .u64 150] 101)).cell? ⟨0, 0, none⟩ = some (.iface 127 (.agg #[.pointer (some ⟨7, 54, none⟩)])) := by
    rw [World.cell?_alloc_lt _ _ ⟨0, 0, none⟩ (by simp <;> omega), World.cell?_alloc_lt _ _ ⟨0, 0, none⟩ hlt]; exact hg
  have el := ev_pf ⟨w.heap.size, 0, none⟩ ⟨b, 0, none⟩ (((w.alloc (.cells #[.pointer (some ⟨b, 0, none⟩)] 85)).alloc (.cells #[.pointer (some ⟨7, 85, none⟩), .pointer (some ⟨w.heap.size, 0, none⟩), .int .u64 150] 101)).alloc (.cells #[.pointer (some ⟨7, 85, none⟩), .pointer (some ⟨w.heap.size, 0, none⟩), .int .u64 150] 101)) (by rw [World.cell?_alloc_lt _ _ ⟨w.heap.size, 0, none⟩ (by simp <;> omega)]; simp)
  have st := set_f ⟨b, 0, none⟩ ⟨w.heap.size + 1 + 1 + 1, 0, none⟩ n old ((((w.alloc (.cells #[.pointer (some ⟨b, 0, none⟩)] 85)).alloc (.cells #[.pointer (some ⟨7, 85, none⟩), .pointer (some ⟨w.heap.size, 0, none⟩), .int .u64 150] 101)).alloc (.cells #[.pointer (some ⟨7, 85, none⟩), .pointer (some ⟨w.heap.size, 0, none⟩), .int .u64 150] 101)).alloc (.cells #[.int .i64 n] 77)) (by rw [World.cell?_alloc_at _ _ _ _ (by simp)]; rfl) (by rw [World.cell?_alloc_lt _ _ ⟨b, 0, none⟩ (by simp <;> omega), World.cell?_alloc_lt _ _ ⟨b, 0, none⟩ (by simp <;> omega), World.cell?_alloc_lt _ _ ⟨b, 0, none⟩ (by simp <;> omega), World.cell?_alloc_lt _ _ ⟨b, 0, none⟩ hbl]; exact ht) (by rw [World.frozen?_alloc_old _ _ ⟨b, 0, none⟩ (by simp <;> omega), World.frozen?_alloc_old _ _ ⟨b, 0, none⟩ (by simp <;> omega), World.frozen?_alloc_old _ _ ⟨b, 0, none⟩ (by simp <;> omega), World.frozen?_alloc_old _ _ ⟨b, 0, none⟩ (Nat.ne_of_lt hbl)]; exact hf)
  have BB : Hid (Below w.heap.size w ((((w.alloc (.cells #[.pointer (some ⟨b, 0, none⟩)] 85)).alloc (.cells #[.pointer (some ⟨7, 85, none⟩), .pointer (some ⟨w.heap.size, 0, none⟩), .int .u64 150] 101)).alloc (.cells #[.pointer (some ⟨7, 85, none⟩), .pointer (some ⟨w.heap.size, 0, none⟩), .int .u64 150] 101)).alloc (.cells #[.int .i64 n] 77))) := ((((Below.refl _ _).alloc (Nat.le_refl _) _).alloc (by simp) _).alloc (by simp <;> omega) _).alloc (by simp <;> omega) _
  go_enter Tryz.func37, Tryz.ntmps37
  go_wp2
  refine wp_loop_rounds 1 ?_
  rw [rounds_succ]
  go_wp2
  go_ret
  exact ⟨rfl, _, BB.out, rfl⟩
set_option maxHeartbeats 8000000 in
theorem as_ll (k n : Int) (b : Nat) (o0 o1 : Value) (w : World) (hg : EtAt w) (ht : w.cell? ⟨b, 0, none⟩ = some o0) (ht1 : w.cell? ⟨b, 1, none⟩ = some o1) (hf : ∀ j, w.frozen? ⟨b, j, none⟩ = false) (hbl : b < w.heap.size) :
    Calls Tryz.prog 37 #[.iface 82 (.agg #[.int .i64 k, .iface 77 (.int .i64 n)]), .iface 84 (.pointer (some ⟨b, 0, none⟩))] w fun e w' => e = .returned (.bool true) ∧ ∃ w2, Below w.heap.size w w2 ∧ w' = (w2.setCell ⟨b, 0, none⟩ (.int .i64 k)).setCell ⟨b, 1, none⟩ (.iface 77 (.int .i64 n)) := by
  have h6 := @run_callFunc_extern Tryz.prog 51 _ (fun args => ReflectliteValue.unpack (args.getD 0 (.tuple #[]))) Tryz.func51 (by kernel_rfl) (by kernel_rfl) (by kernel_rfl) (by kernel_rfl)
  have h7 := @run_callFunc_extern Tryz.prog 52 _ (ReflectliteValue.methodAny (ReflectliteValue.valueError "reflectlite.Value.Type" 0) (fun t _ _ _ => ReflectliteType.toType t)) Tryz.func52 (by kernel_rfl) (by kernel_rfl) (by kernel_rfl) (by kernel_rfl)
  have h8 := @run_callFunc_extern Tryz.prog 53 _ (ReflectliteValue.method (ReflectliteValue.valueError "reflectlite.Value.IsNil" 0) ReflectliteValue.isNil) Tryz.func53 (by kernel_rfl) (by kernel_rfl) (by kernel_rfl) (by kernel_rfl)
  have h27 := @run_callFunc_extern Tryz.prog 138 _ (ReflectliteType.abiMethod fun t => do pure (.int .u8 (← Rtype.kind t))) Tryz.func138 (by kernel_rfl) (by kernel_rfl) (by kernel_rfl) (by kernel_rfl)
  have h37 := @run_callFunc_extern Tryz.prog 151 _ (ReflectliteType.method ReflectliteType.elem) Tryz.func151 (by kernel_rfl) (by kernel_rfl) (by kernel_rfl) (by kernel_rfl)
  have h38 := @run_callFunc_extern Tryz.prog 152 _ (ReflectliteType.relation "Implements" ReflectliteType.implements_) Tryz.func152 (by kernel_rfl) (by kernel_rfl) (by kernel_rfl) (by kernel_rfl)
  have h10 := @run_callFunc_extern Tryz.prog 68 _ ReflectliteType.typeOf Tryz.func68 (by kernel_rfl) (by kernel_rfl) (by kernel_rfl) (by kernel_rfl)
  have h35 := @run_callFunc_extern Tryz.prog 149 _ (ReflectliteType.relation "AssignableTo" ReflectliteType.assignableTo) Tryz.func149 (by kernel_rfl) (by kernel_rfl) (by kernel_rfl) (by kernel_rfl)
  have h11 := @run_callFunc_extern Tryz.prog 69 _ (ReflectliteValue.method (ReflectliteValue.valueError "reflectlite.Value.Elem" 0) ReflectliteValue.elem) Tryz.func69 (by kernel_rfl) (by kernel_rfl) (by kernel_rfl) (by kernel_rfl)
  have h12 := @run_callFunc_extern Tryz.prog 70 _ ReflectliteValue.set Tryz.func70 (by kernel_rfl) (by kernel_rfl) (by kernel_rfl) (by kernel_rfl)
  have e3 := m_kind
  have e4 := m_elem
  have e5 := m_impl
  have e6 := m_asgn
  have e1 := vo_pl
  have e2 := ty_pl
  have e7 := k_pl
  have e8 := k_l
  have e9 := el_pl
  have e10 := im_l
  have e11 := to_l
  have e12 := as_l_l
  have e13 := vo_l
  have hlt := hg.lt
  unfold EtAt at hg
  have n8 := nil_pl ⟨w.heap.size, 0, none⟩ ⟨b, 0, none⟩ ((w.alloc (.cells #[.pointer (some ⟨b, 0, none⟩)] 84)).alloc (.cells #[.pointer (some ⟨7, 84, none⟩), .pointer (some ⟨w.heap.size, 0, none⟩), .int .u64 150] 101)) (by simp)
  have hg2 : ((w.alloc (.cells #[.pointer (some ⟨b, 0, none⟩)] 84)).alloc (.cells #[.pointer (some ⟨7, 84, none⟩), .pointer (some ⟨w.heap.size, 0, none⟩), .int .u64 150] 101)).cell? ⟨0, 0, none⟩ = some (.iface 127 (.agg #[.pointer (some ⟨7, 54, none⟩)])) := by
    rw [World.cell?_alloc_lt _ _ ⟨0, 0, none⟩ (by simp <;> omega), World.cell?_alloc_lt _ _ ⟨0, 0, none⟩ hlt]; exact hg
  have el := ev_pl ⟨w.heap.size, 0, none⟩ ⟨b, 0, none⟩ (((w.alloc (.cells #[.pointer (some ⟨b, 0, none⟩)] 84)).alloc (.cells #[.pointer (some ⟨7, 84, none⟩), .pointer (some ⟨w.heap.size, 0, none⟩), .int .u64 150] 101)).alloc (.cells #[.pointer (some ⟨7, 84, none⟩), .pointer (some ⟨w.heap.size, 0, none⟩), .int .u64 150] 101)) (by rw [World.cell?_alloc_lt _ _ ⟨w.heap.size, 0, none⟩ (by simp <;> omega)]; simp)
  have st := set_l b (w.heap.size + 1 + 1 + 1) k 77 (.int .i64 n) o0 o1 ((((w.alloc (.cells #[.pointer (some ⟨b, 0, none⟩)] 84)).alloc (.cells #[.pointer (some ⟨7, 84, none⟩), .pointer (some ⟨w.heap.size, 0, none⟩), .int .u64 150] 101)).alloc (.cells #[.pointer (some ⟨7, 84, none⟩), .pointer (some ⟨w.heap.size, 0, none⟩), .int .u64 150] 101)).alloc (.cells #[.int .i64 k, .iface 77 (.int .i64 n)] 82)) (by rw [World.cell?_alloc_at _ _ _ _ (by simp)]; rfl) (by rw [World.cell?_alloc_at _ _ _ _ (by simp)]; rfl) (by rw [World.cell?_alloc_lt _ _ ⟨b, 0, none⟩ (by simp <;> omega), World.cell?_alloc_lt _ _ ⟨b, 0, none⟩ (by simp <;> omega), World.cell?_alloc_lt _ _ ⟨b, 0, none⟩ (by simp <;> omega), World.cell?_alloc_lt _ _ ⟨b, 0, none⟩ hbl]; exact ht) (by rw [World.cell?_alloc_lt _ _ ⟨b, 1, none⟩ (by simp <;> omega), World.cell?_alloc_lt _ _ ⟨b, 1, none⟩ (by simp <;> omega), World.cell?_alloc_lt _ _ ⟨b, 1, none⟩ (by simp <;> omega), World.cell?_alloc_lt _ _ ⟨b, 1, none⟩ hbl]; exact ht1) (by rw [World.frozen?_alloc_old _ _ ⟨b, 0, none⟩ (by simp <;> omega), World.frozen?_alloc_old _ _ ⟨b, 0, none⟩ (by simp <;> omega), World.frozen?_alloc_old _ _ ⟨b, 0, none⟩ (by simp <;> omega), World.frozen?_alloc_old _ _ ⟨b, 0, none⟩ (Nat.ne_of_lt hbl)]; exact hf 0) (by rw [World.frozen?_alloc_old _ _ ⟨b, 1, none⟩ (by simp <;> omega), World.frozen?_alloc_old _ _ ⟨b, 1, none⟩ (by simp <;> omega), World.frozen?_alloc_old _ _ ⟨b, 1, none⟩ (by simp <;> omega), World.frozen?_alloc_old _ _ ⟨b, 1, none⟩ (Nat.ne_of_lt hbl)]; exact hf 1)
  have BB : Hid (Below w.heap.size w ((((w.alloc (.cells #[.pointer (some ⟨b, 0, none⟩)] 84)).alloc (.cells #[.pointer (some ⟨7, 84, none⟩), .pointer (some ⟨w.heap.size, 0, none⟩), .int .u64 150] 101)).alloc (.cells #[.pointer (some ⟨7, 84, none⟩), .pointer (some ⟨w.heap.size, 0, none⟩), .int .u64 150] 101)).alloc (.cells #[.int .i64 k, .iface 77 (.int .i64 n)] 82))) := ((((Below.refl _ _).alloc (Nat.le_refl _) _).alloc (by simp) _).alloc (by simp <;> omega) _).alloc (by simp <;> omega) _
  go_enter Tryz.func37, Tryz.ntmps37
  go_wp2
  refine wp_loop_rounds 1 ?_
  rw [rounds_succ]
  go_wp2
  go_ret
  exact ⟨rfl, _, BB.out, rfl⟩
set_option maxHeartbeats 8000000 in
theorem as_fl (n : Int) (b : Nat) (w : World) (hg : EtAt w) :
    Calls Tryz.prog 37 #[.iface 77 (.int .i64 n), .iface 84 (.pointer (some ⟨b, 0, none⟩))] w fun e w' => e = .returned (.bool false) ∧ Below w.heap.size w w' := by
  have h6 := @run_callFunc_extern Tryz.prog 51 _ (fun args => ReflectliteValue.unpack (args.getD 0 (.tuple #[]))) Tryz.func51 (by kernel_rfl) (by kernel_rfl) (by kernel_rfl) (by kernel_rfl)
  have h7 := @run_callFunc_extern Tryz.prog 52 _ (ReflectliteValue.methodAny (ReflectliteValue.valueError "reflectlite.Value.Type" 0) (fun t _ _ _ => ReflectliteType.toType t)) Tryz.func52 (by kernel_rfl) (by kernel_rfl) (by kernel_rfl) (by kernel_rfl)
  have h8 := @run_callFunc_extern Tryz.prog 53 _ (ReflectliteValue.method (ReflectliteValue.valueError "reflectlite.Value.IsNil" 0) ReflectliteValue.isNil) Tryz.func53 (by kernel_rfl) (by kernel_rfl) (by kernel_rfl) (by kernel_rfl)
  have h27 := @run_callFunc_extern Tryz.prog 138 _ (ReflectliteType.abiMethod fun t => do pure (.int .u8 (← Rtype.kind t))) Tryz.func138 (by kernel_rfl) (by kernel_rfl) (by kernel_rfl) (by kernel_rfl)
  have h37 := @run_callFunc_extern Tryz.prog 151 _ (ReflectliteType.method ReflectliteType.elem) Tryz.func151 (by kernel_rfl) (by kernel_rfl) (by kernel_rfl) (by kernel_rfl)
  have h38 := @run_callFunc_extern Tryz.prog 152 _ (ReflectliteType.relation "Implements" ReflectliteType.implements_) Tryz.func152 (by kernel_rfl) (by kernel_rfl) (by kernel_rfl) (by kernel_rfl)
  have h10 := @run_callFunc_extern Tryz.prog 68 _ ReflectliteType.typeOf Tryz.func68 (by kernel_rfl) (by kernel_rfl) (by kernel_rfl) (by kernel_rfl)
  have h35 := @run_callFunc_extern Tryz.prog 149 _ (ReflectliteType.relation "AssignableTo" ReflectliteType.assignableTo) Tryz.func149 (by kernel_rfl) (by kernel_rfl) (by kernel_rfl) (by kernel_rfl)
  have h11 := @run_callFunc_extern Tryz.prog 69 _ (ReflectliteValue.method (ReflectliteValue.valueError "reflectlite.Value.Elem" 0) ReflectliteValue.elem) Tryz.func69 (by kernel_rfl) (by kernel_rfl) (by kernel_rfl) (by kernel_rfl)
  have h12 := @run_callFunc_extern Tryz.prog 70 _ ReflectliteValue.set Tryz.func70 (by kernel_rfl) (by kernel_rfl) (by kernel_rfl) (by kernel_rfl)
  have e3 := m_kind
  have e4 := m_elem
  have e5 := m_impl
  have e6 := m_asgn
  have e1 := vo_pl
  have e2 := ty_pl
  have e7 := k_pl
  have e8 := k_l
  have e9 := el_pl
  have e10 := im_l
  have e11 := to_f
  have e12 := as_f_l
  have e14 := miss_f
  have e15 := unw_f
  have e16 := unws_f
  have hlt := hg.lt
  unfold EtAt at hg
  have n8 := nil_pl ⟨w.heap.size, 0, none⟩ ⟨b, 0, none⟩ ((w.alloc (.cells #[.pointer (some ⟨b, 0, none⟩)] 84)).alloc (.cells #[.pointer (some ⟨7, 84, none⟩), .pointer (some ⟨w.heap.size, 0, none⟩), .int .u64 150] 101)) (by simp)
  have hg2 : ((w.alloc (.cells #[.pointer (some ⟨b, 0, none⟩)] 84)).alloc (.cells #[.pointer (some ⟨7, 84, none⟩), .pointer (some ⟨w.heap.size, 0, none⟩), .int .u64 150] 101)).cell? ⟨0, 0, none⟩ = some (.iface 127 (.agg #[.pointer (some ⟨7, 54, none⟩)])) := by
    rw [World.cell?_alloc_lt _ _ ⟨0, 0, none⟩ (by simp <;> omega), World.cell?_alloc_lt _ _ ⟨0, 0, none⟩ hlt]; exact hg
  have BB : Hid (Below w.heap.size w (((w.alloc (.cells #[.pointer (some ⟨b, 0, none⟩)] 84)).alloc (.cells #[.pointer (some ⟨7, 84, none⟩), .pointer (some ⟨w.heap.size, 0, none⟩), .int .u64 150] 101)).alloc (.cells #[.pointer (some ⟨7, 84, none⟩), .pointer (some ⟨w.heap.size, 0, none⟩), .int .u64 150] 101))) := (((Below.refl _ _).alloc (Nat.le_refl _) _).alloc (by simp) _).alloc (by simp <;> omega) _
  go_enter Tryz.func37, Tryz.ntmps37
  go_wp2
  refine wp_loop_rounds 1 ?_
  rw [rounds_succ]
  go_wp2
  go_ret
  exact ⟨rfl, BB.out⟩
set_option maxHeartbeats 8000000 in
theorem as_lf (k n : Int) (b : Nat) (old : Value) (w : World) (hg : EtAt w) (ht : w.cell? ⟨b, 0, none⟩ = some old) (hf : w.frozen? ⟨b, 0, none⟩ = false) (hbl : b < w.heap.size) :
    Calls Tryz.prog 37 #[.iface 82 (.agg #[.int .i64 k, .iface 77 (.int .i64 n)]), .iface 85 (.pointer (some ⟨b, 0, none⟩))] w fun e w' => e = .returned (.bool true) ∧ ∃ w2, Below w.heap.size w w2 ∧ w' = w2.setCell ⟨b, 0, none⟩ (.int .i64 n) := by
  have h6 := @run_callFunc_extern Tryz.prog 51 _ (fun args => ReflectliteValue.unpack (args.getD 0 (.tuple #[]))) Tryz.func51 (by kernel_rfl) (by kernel_rfl) (by kernel_rfl) (by kernel_rfl)
  have h7 := @run_callFunc_extern Tryz.prog 52 _ (ReflectliteValue.methodAny (ReflectliteValue.valueError "reflectlite.Value.Type" 0) (fun t _ _ _ => ReflectliteType.toType t)) Tryz.func52 (by kernel_rfl) (by kernel_rfl) (by kernel_rfl) (by kernel_rfl)
  have h8 := @run_callFunc_extern Tryz.prog 53 _ (ReflectliteValue.method (ReflectliteValue.valueError "reflectlite.Value.IsNil" 0) ReflectliteValue.isNil) Tryz.func53 (by kernel_rfl) (by kernel_rfl) (by kernel_rfl) (by kernel_rfl)
  have h27 := @run_callFunc_extern Tryz.prog 138 _ (ReflectliteType.abiMethod fun t => do pure (.int .u8 (← Rtype.kind t))) Tryz.func138 (by kernel_rfl) (by kernel_rfl) (by kernel_rfl) (by kernel_rfl)
  have h37 := @run_callFunc_extern Tryz.prog 151 _ (ReflectliteType.method ReflectliteType.elem) Tryz.func151 (by kernel_rfl) (by kernel_rfl) (by kernel_rfl) (by kernel_rfl)
  have h38 := @run_callFunc_extern Tryz.prog 152 _ (ReflectliteType.relation "Implements" ReflectliteType.implements_) Tryz.func152 (by kernel_rfl) (by kernel_rfl) (by kernel_rfl) (by kernel_rfl)
  have h10 := @run_callFunc_extern Tryz.prog 68 _ ReflectliteType.typeOf Tryz.func68 (by kernel_rfl) (by kernel_rfl) (by kernel_rfl) (by kernel_rfl)
  have h35 := @run_callFunc_extern Tryz.prog 149 _ (ReflectliteType.relation "AssignableTo" ReflectliteType.assignableTo) Tryz.func149 (by kernel_rfl) (by kernel_rfl) (by kernel_rfl) (by kernel_rfl)
  have h11 := @run_callFunc_extern Tryz.prog 69 _ (ReflectliteValue.method (ReflectliteValue.valueError "reflectlite.Value.Elem" 0) ReflectliteValue.elem) Tryz.func69 (by kernel_rfl) (by kernel_rfl) (by kernel_rfl) (by kernel_rfl)
  have h12 := @run_callFunc_extern Tryz.prog 70 _ ReflectliteValue.set Tryz.func70 (by kernel_rfl) (by kernel_rfl) (by kernel_rfl) (by kernel_rfl)
  have e3 := m_kind
  have e4 := m_elem
  have e5 := m_impl
  have e6 := m_asgn
  have e1 := vo_pf
  have e2 := ty_pf
  have e7 := k_pf
  have e8 := k_f
  have e9 := el_pf
  have e10 := im_f
  have e11 := to_l
  have e12 := as_l_f
  have e14 := miss_l
  have e15 := unw_l
  have e16 := m_unwrap
  have e17 := to_f
  have e18 := as_f_f
  have UW := Mr.hid (fun W => unwrap_any k 77 (.int .i64 n) W)
  have e13 := vo_f
  have hlt := hg.lt
  unfold EtAt at hg
  have n8 := nil_pf ⟨w.heap.size, 0, none⟩ ⟨b, 0, none⟩ ((w.alloc (.cells #[.pointer (some ⟨b, 0, none⟩)] 85)).alloc (.cells #[.pointer (some ⟨7, 85, none⟩), .pointer (some ⟨w.heap.size, 0, none⟩), .int .u64 150] 101)) (by simp)
  have hg2 : ((w.alloc (.cells #[.pointer (some ⟨b, 0, none⟩)] 85)).alloc (.cells #[.pointer (some ⟨7, 85, none⟩), .pointer (some ⟨w.heap.size, 0, none⟩), .int .u64 150] 101)).cell? ⟨0, 0, none⟩ = some (.iface 127 (.agg #[.pointer (some ⟨7, 54, none⟩)])) := by
    rw [World.cell?_alloc_lt _ _ ⟨0, 0, none⟩ (by simp <;> omega), World.cell?_alloc_lt _ _ ⟨0, 0, none⟩ hlt]; exact hg
  have el := ev_pf ⟨w.heap.size, 0, none⟩ ⟨b, 0, none⟩ ((((w.alloc (.cells #[.pointer (some ⟨b, 0, none⟩)] 85)).alloc (.cells #[.pointer (some ⟨7, 85, none⟩), .pointer (some ⟨w.heap.size, 0, none⟩), .int .u64 150] 101)).alloc (.cells #[.pointer (some ⟨7, 85, none⟩), .pointer (some ⟨w.heap.size, 0, none⟩), .int .u64 150] 101)).alloc (.cells #[.int .i64 k, .iface 77 (.int .i64 n)] 82)) (by rw [World.cell?_alloc_lt _ _ ⟨w.heap.size, 0, none⟩ (by simp <;> omega)]; rw [World.cell?_alloc_lt _ _ ⟨w.heap.size, 0, none⟩ (by simp <;> omega)]; simp)
  have st := set_f ⟨b, 0, none⟩ ⟨w.heap.size + 1 + 1 + 1 + 1, 0, none⟩ n old (((((w.alloc (.cells #[.pointer (some ⟨b, 0, none⟩)] 85)).alloc (.cells #[.pointer (some ⟨7, 85, none⟩), .pointer (some ⟨w.heap.size, 0, none⟩), .int .u64 150] 101)).alloc (.cells #[.pointer (some ⟨7, 85, none⟩), .pointer (some ⟨w.heap.size, 0, none⟩), .int .u64 150] 101)).alloc (.cells #[.int .i64 k, .iface 77 (.int .i64 n)] 82)).alloc (.cells #[.int .i64 n] 77)) (by rw [World.cell?_alloc_at _ _ _ _ (by simp)]; rfl) (by rw [World.cell?_alloc_lt _ _ ⟨b, 0, none⟩ (by simp <;> omega), World.cell?_alloc_lt _ _ ⟨b, 0, none⟩ (by simp <;> omega), World.cell?_alloc_lt _ _ ⟨b, 0, none⟩ (by simp <;> omega), World.cell?_alloc_lt _ _ ⟨b, 0, none⟩ (by simp <;> omega), World.cell?_alloc_lt _ _ ⟨b, 0, none⟩ hbl]; exact ht) (by rw [World.frozen?_alloc_old _ _ ⟨b, 0, none⟩ (by simp <;> omega), World.frozen?_alloc_old _ _ ⟨b, 0, none⟩ (by simp <;> omega), World.frozen?_alloc_old _ _ ⟨b, 0, none⟩ (by simp <;> omega), World.frozen?_alloc_old _ _ ⟨b, 0, none⟩ (by simp <;> omega), World.frozen?_alloc_old _ _ ⟨b, 0, none⟩ (Nat.ne_of_lt hbl)]; exact hf)
  have BB : Hid (Below w.heap.size w (((((w.alloc (.cells #[.pointer (some ⟨b, 0, none⟩)] 85)).alloc (.cells #[.pointer (some ⟨7, 85, none⟩), .pointer (some ⟨w.heap.size, 0, none⟩), .int .u64 150] 101)).alloc (.cells #[.pointer (some ⟨7, 85, none⟩), .pointer (some ⟨w.heap.size, 0, none⟩), .int .u64 150] 101)).alloc (.cells #[.int .i64 k, .iface 77 (.int .i64 n)] 82)).alloc (.cells #[.int .i64 n] 77))) := (((((Below.refl _ _).alloc (Nat.le_refl _) _).alloc (by simp) _).alloc (by simp <;> omega) _).alloc (by simp <;> omega) _).alloc (by simp <;> omega) _
  go_enter Tryz.func37, Tryz.ntmps37
  go_wp2
  refine wp_loop_rounds 2 ?_
  rw [rounds_succ]
  go_wp2_with (go_at_call 144; refine (UW.out _).mono ?_; rintro e w9 ⟨rfl, hw9⟩; obtain rfl := hw9.symm)
  rw [rounds_succ]
  go_wp2
  go_ret
  exact ⟨rfl, _, BB.out, rfl⟩
end Go.Proofs.YtcomelbphdjnnaaGreatDoor.Sc
/-
  SCRIPT: call and meaning, where a line has no form.
-/
namespace Go.Proofs.YtcomelbphdjnnaaGreatDoor.Sc
open Go.RowKit Mr
set_option linter.unusedVariables false
set_option linter.unusedSimpArgs false
set_option maxRecDepth 100000
set_option maxHeartbeats 8000000 in
theorem call_none (ws : List (List UInt8)) (a : Option Addr) (n c : Nat) (v : Value) (w : World) (hW : WsAt w a n ws) (hn : n ≤ 1048576) (h : callM ws (formL ws) (numsL ws) = []) :
    Calls Tryz.prog 85 #[.slice a n c, .string ⟨(formL ws).toArray⟩, v] w fun e w' => e = .returned (.slice none 0 0) ∧ Below w.heap.size w w' := by
  have hl := hW.1
  by_cases h2 : ws.length < 2
  · have d2 : decide ((n : Int) < 2) = true := decide_eq_true (by omega)
    have d3 : (n : Int) < 2 := by omega
    generalize (⟨(formL ws).toArray⟩ : ByteArray) = F at *
    clear hW h hl h2
    go_enter Tryz.func85, Tryz.ntmps85
    go_wp2
    go_ret
    exact ⟨rfl, Below.refl _ _⟩
  · have hw1 : ∃ x, ws[1]? = some x ∧ ws.getD 1 [] = x := ⟨ws[1]'(by omega), List.getElem?_eq_getElem _, by simp [List.getD_eq_getElem?_getD, List.getElem?_eq_getElem (show 1 < ws.length by omega)]⟩
    obtain ⟨x, hx, hx2⟩ := hw1
    obtain ⟨gw, rfl, hgw, hc⟩ := hW.2.resolve_left (by intro e; rw [e] at h2; simp at h2)
    have c1 := hc 1 x hx
    have d2 : decide ((n : Int) < 2) = false := decide_eq_false (by omega)
    have d3 : ¬ (n : Int) < 2 := by omega
    have d4 : (1 : Int) < (n : Int) := by omega
    rw [callM_two h2, hx2] at h
    cases hr : rowN x with
    | none =>
      have CN := Mr.hid (fun W => callNamed_none ⟨x.toArray⟩ W (rowN_none hr))
      generalize (⟨(formL ws).toArray⟩ : ByteArray) = F at *
      generalize (⟨x.toArray⟩ : ByteArray) = X at *
      clear hc hW h hl h2 hx hx2 hr
      go_enter Tryz.func85, Tryz.ntmps85
      go_wp2_with (go_at_call 98; refine (CN.out _).mono ?_; clear CN; rintro e w1 ⟨rfl, B1⟩; have hb1 : w1.heap.size < w1.heap.size + 1 := Nat.lt_succ_self _; replace B1 := Mr.hid B1)
      go_ret
      exact ⟨rfl, B1.out.alloc B1.out.size _⟩
    | some k =>
      obtain ⟨hk1, hk2⟩ := rowN_some hr
      rw [hr] at h
      have hf : formL ws ≠ fCall k := fun e => by simp [e] at h
      rw [← hk2] at c1
      have CN := Mr.hid (fun W => callNamed_some k W hk1)
      have FR := Mr.hid (fun W => form_row k hk1 W)
      have ef : ((⟨(formL ws).toArray⟩ : ByteArray).toList == (⟨(fCall k).toArray⟩ : ByteArray).toList) = false := by rw [toList_of, toList_of]; exact beq_eq_false_iff_ne.2 hf
      have ef2 : ¬ (⟨(formL ws).toArray⟩ : ByteArray).toList = (⟨(fCall k).toArray⟩ : ByteArray).toList := by rw [toList_of, toList_of]; exact hf
      generalize wdA k = xw at *
      generalize opA k = xo at *
      generalize tkA k = xt at *
      generalize (⟨(fCall k).toArray⟩ : ByteArray) = fc at *
      generalize (⟨(formL ws).toArray⟩ : ByteArray) = F at *
      clear hc hW h hl h2 hx hx2 hr hf hk2
      go_enter Tryz.func85, Tryz.ntmps85
      go_wp2_with (first | (go_at_call 98; refine (CN.out _).mono ?_; clear CN; rintro e w1 ⟨rfl, B1⟩; have hb1 : w1.heap.size < w1.heap.size + 1 := Nat.lt_succ_self _; replace B1 := Mr.hid B1) | (go_at_call 63; refine (FR.out _).mono ?_; clear FR; rintro e w2 ⟨rfl, B2⟩; have BB : Hid (Below w.heap.size w w2) := (B1.out.alloc B1.out.size _).trans (B2.mono (by simp; have := B1.out.size; omega)); clear B2))
      go_ret
      exact ⟨rfl, BB.out⟩
set_option maxHeartbeats 8000000 in
theorem meaning_none (ws : List (List UInt8)) (R T : Nat) (a : Option Addr) (n c : Nat) (v : Value) (w : World) (hW : WsAt w a n ws) (hn : n ≤ 1048576) (hsz : ∀ x ∈ ws, x.length ≤ 1048576) (hT : 1 ≤ T) (h : (mean T ws (numsL ws)).1 = []) :
    Calls Tryz.prog 67 #[.pointer (some ⟨R, 0, none⟩), .slice a n c, v] w fun e w' => e = .returned (.tuple #[.slice none 0 0, .int .i64 1]) ∧ Below w.heap.size w w' := by
  have f1 : formL ws ≠ fStep := fun e => by unfold mean at h; rw [if_pos e] at h; simp at h
  have f2 : formL ws ≠ fSteps := fun e => by unfold mean at h; rw [if_neg f1, if_pos e] at h; simp at h
  have f3 : formL ws ≠ fRounds := fun e => by
    unfold mean at h; rw [if_neg f1, if_neg f2, if_pos e] at h
    have := congrArg List.length h
    simp [rnds] at this
    omega
  have f4 : formL ws ≠ fOp := fun e => by unfold mean at h; rw [if_neg f1, if_neg f2, if_neg f3, if_pos e] at h; simp at h
  have hc : callM ws (formL ws) (numsL ws) = [] := by unfold mean at h; rw [if_neg f1, if_neg f2, if_neg f3, if_neg f4] at h; exact h
  have FO := Mr.hid (formOf_any ws a n c w hW hn hsz)
  have CL := Mr.hid (fun W (hB : Below w.heap.size w W) => call_none ws a n c v W (hW.below hB) hn hc)
  obtain ⟨F, hF⟩ : ∃ F : ByteArray, F = ⟨(formL ws).toArray⟩ := ⟨_, rfl⟩
  rw [← hF] at FO CL
  have kfStep : (F.toList == [48, 32, 46]) = false := by rw [hF, toList_of]; exact beq_eq_false_iff_ne.2 f1
  have kfSteps : (F.toList == [48, 32, 46, 32, 48]) = false := by rw [hF, toList_of]; exact beq_eq_false_iff_ne.2 f2
  have kfRounds : (F.toList == [42, 32, 48]) = false := by rw [hF, toList_of]; exact beq_eq_false_iff_ne.2 f3
  have kfOp : (F.toList == [48, 32, 111, 112, 32, 48, 32, 48, 32, 48]) = false := by rw [hF, toList_of]; exact beq_eq_false_iff_ne.2 f4
  clear hF f1 f2 f3 f4 hc hsz hW h
  go_enter Tryz.func67, Tryz.ntmps67
  go_upto_region 11 with (go_at_call 65; refine FO.out.mono ?_; clear FO; rintro e w1 ⟨rfl, B1⟩)
  have C1 := Mr.hid (CL.out w1 B1)
  clear CL
  replace B1 := Mr.hid B1
  go_wp2_with (go_at_call 85; refine C1.out.mono ?_; clear C1; rintro e w2 ⟨rfl, B2⟩; replace B2 := Mr.hid B2)
  go_ret2
  exact ⟨rfl, B1.out.trans (B2.out.mono B1.out.size)⟩
end Go.Proofs.YtcomelbphdjnnaaGreatDoor.Sc
