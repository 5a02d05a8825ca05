import Derived.Test.YtcomelbphdjnnaaGreatDoorJ13
import Derived.BigRegion
import Derived.Test.YtcomelbphdjnnaaGreatDoorJ03
import Derived.LaidEql
import Derived.Stop.Asserts
import Derived.RowKitTokens
import Derived.Lib.ReflectliteSlice
/-
  SCRIPT: Parse, where nothing is wrong.
-/
namespace Go.Proofs.YtcomelbphdjnnaaGreatDoor.Sc
open Go.RowKit Mr
set_option linter.unusedVariables false
set_option linter.unusedSimpArgs false
set_option maxRecDepth 100000
def cfV (c : Cf) : Value := .agg #[.int .i64 c.c0, .int .i64 c.c1, .int .i64 c.c2, .int .i64 c.c3, .int .i64 c.c4, .int .i64 c.c5, .int .i64 c.c6]
theorem parseO_some {l : List UInt8} {st : Cf × List Mv} (h : parseO l = some st) : l.length ≤ 1048576 ∧ prO l.length l (cfZ, []) = some st ∧ st.1 ≠ cfZ := by
  unfold parseO at h
  split at h
  · rename_i hl
    refine ⟨hl, ?_⟩
    cases hp : prO l.length l (cfZ, []) with
    | none => rw [hp] at h; cases h
    | some s =>
      rw [hp] at h
      dsimp only at h
      split at h
      · cases h
      · rename_i hn; cases h; exact ⟨rfl, hn⟩
  · cases h
/-- What Parse answers of a text that it reads. -/
def PaA (w : World) (fin : Cf × List Mv) (e : Ending) (w' : World) : Prop := ∃ v, e = .returned (.tuple #[cfV fin.1, v, .int .i64 0, .int .i64 0]) ∧ Has w' (fun k => w.heap.size ≤ k) 42 4 v fin.2.length (mvc fin.2) ∧ Below w.heap.size w w'
set_option maxHeartbeats 16000000 in
theorem Parse_ok (l : List UInt8) (fin : Cf × List Mv) (w : World) (E : Env w) (h : parseO l = some fin) :
    Calls Tryz.prog 10 #[.string ⟨l.toArray⟩] w (PaA w fin) := by
  obtain ⟨h1, h2, h3⟩ := parseO_some h
  obtain ⟨o1, ho1⟩ : ∃ o, o = Obj.cells #[.int .i64 0, .int .i64 0, .int .i64 0, .int .i64 0, .int .i64 0, .int .i64 0, .int .i64 0] 23 (0, 0) := ⟨_, rfl⟩
  have hB0 : Below (w.alloc o1).heap.size (w.alloc o1) ((w.alloc o1).alloc (cfO cfZ (.slice none 0 0))) := (Below.refl _ _).alloc (Nat.le_refl _) _
  have hR0 : Rd (w.alloc o1).heap.size (w.heap.size + 1) ((w.alloc o1).alloc (cfO cfZ (.slice none 0 0))) cfZ (.slice none 0 0) [] := ⟨new_at _ _ _ (by simp), Has.nil _ _ _ _, by simp⟩
  have TX := Mr.hid (text_ok (w.alloc o1) (w.heap.size + 1) _ l fin _ (E.below ((Below.refl _ _).alloc (Nat.le_refl _) _)) hB0 hR0 h1 h2 h3)
  subst ho1
  unfold cfO at TX
  dsimp only [cfZ] at TX
  obtain ⟨⟨n0, n1, n2, n3, n4, n5, n6⟩, ms⟩ := fin
  generalize (⟨l.toArray⟩ : ByteArray) = X at *
  clear h h1 h2 h3 hR0 hB0
  go_enter Tryz.func10, Tryz.ntmps10
  go_upto_region 5 with (go_at_call 20; refine TX.out.mono ?_; clear TX; rintro e w2 ⟨v, rfl, hR2, hB2⟩)
  have hbx : w2.heap[w.heap.size]? = some (.cells #[.int .i64 0, .int .i64 0, .int .i64 0, .int .i64 0, .int .i64 0, .int .i64 0, .int .i64 0] 23 (0, 0)) := (hB2.block _ (by simp)).trans (new_at _ _ _ rfl)
  have hBB : Hid (Below w.heap.size w w2) := ((Below.refl _ _).alloc (Nat.le_refl _) _).trans (hB2.mono (by simp))
  have hrb := hR2.box
  unfold cfO at hrb
  have x0 := cell_blk hrb 0
  have x1 := cell_blk hrb 1
  have x2 := cell_blk hrb 2
  have x3 := cell_blk hrb 3
  have x4 := cell_blk hrb 4
  have x5 := cell_blk hrb 5
  have x6 := cell_blk hrb 6
  have x7 := cell_blk hrb 7
  have y0 := cell_blk hbx 0
  have y1 := cell_blk hbx 1
  have y2 := cell_blk hbx 2
  have y3 := cell_blk hbx 3
  have y4 := cell_blk hbx 4
  have y5 := cell_blk hbx 5
  have y6 := cell_blk hbx 6
  have hfz : ∀ k, w2.frozen? ⟨w.heap.size, k, none⟩ = false := fun k => by simp [World.frozen?, hbx]
  have l1 := (Array.getElem?_eq_some_iff.1 hbx).1
  have l2 := (Array.getElem?_eq_some_iff.1 hrb).1
  have hrow := Mr.hid hR2.row
  obtain ⟨av, cv, rfl, -⟩ := hR2.row.form
  clear hbx hrb hR2 hB2
  dsimp only at *
  go_region
  go_wp2
  have hno : ((Value.slice av ms.length cv).ownBlock ≠ some w.heap.size) := fun e => by have := (hrow.out.lt _ e).1.1; simp at this; omega
  refine bodyPost_ret (v := .tuple #[.agg #[.int .i64 n0, .int .i64 n1, .int .i64 n2, .int .i64 n3, .int .i64 n4, .int .i64 n5, .int .i64 n6], .slice av ms.length cv, .int .i64 0, .int .i64 0]) (by simp [results, Tryz.results10, go_sem, *]) rfl ⟨_, rfl, ?_, ?_⟩
  · have h1 := (((((((hrow.out.setCell ⟨w.heap.size, 0, none⟩ (.int .i64 n0) hno).setCell ⟨w.heap.size, 1, none⟩ (.int .i64 n1) hno).setCell ⟨w.heap.size, 2, none⟩ (.int .i64 n2) hno).setCell ⟨w.heap.size, 3, none⟩ (.int .i64 n3) hno).setCell ⟨w.heap.size, 4, none⟩ (.int .i64 n4) hno).setCell ⟨w.heap.size, 5, none⟩ (.int .i64 n5) hno).setCell ⟨w.heap.size, 6, none⟩ (.int .i64 n6) hno)
    exact (h1.mono (fun k hk => by have := hk.1; simp at this; omega)).below ((Below.refl _ _).drew)
  · exact (((((((hBB.out.setCell (p := ⟨w.heap.size, 0, none⟩) (Nat.le_refl _) _).setCell (p := ⟨w.heap.size, 1, none⟩) (Nat.le_refl _) _).setCell (p := ⟨w.heap.size, 2, none⟩) (Nat.le_refl _) _).setCell (p := ⟨w.heap.size, 3, none⟩) (Nat.le_refl _) _).setCell (p := ⟨w.heap.size, 4, none⟩) (Nat.le_refl _) _).setCell (p := ⟨w.heap.size, 5, none⟩) (Nat.le_refl _) _).setCell (p := ⟨w.heap.size, 6, none⟩) (Nat.le_refl _) _).drew
end Go.Proofs.YtcomelbphdjnnaaGreatDoor.Sc
/-
  SCRIPT: errors.As at the two kinds of errors; lineOf, errnoOf.
-/
namespace Go.Proofs.YtcomelbphdjnnaaGreatDoor.Sc
open Go.RowKit Mr Go.Extern.Stop Go.Stop Go.Extern
set_option linter.unusedVariables false
set_option linter.unusedSimpArgs false
set_option maxRecDepth 100000
/-- package errors' errorType. -/
def EtAt (W : World) : Prop := W.cell? ⟨0, 0, none⟩ = some (.iface 127 (.agg #[.pointer (some ⟨7, 54, none⟩)]))
theorem EtAt.lt {W : World} (h : EtAt W) : 0 < W.heap.size := by
  unfold EtAt World.cell? at h
  dsimp only at h
  rcases Nat.lt_or_ge 0 W.heap.size with h' | h'
  · exact h'
  · rw [Array.getElem?_eq_none h'] at h; cases h
theorem EtAt.below {W W' : World} (h : EtAt W) (hb : Below W.heap.size W W') : EtAt W' := (hb.cell (p := ⟨0, 0, none⟩) h.lt).trans h
/-! the model's entries for internal/reflectlite at this program's types -/
theorem vo_pf (t : Addr) (w : World) : (ReflectliteValue.unpack (.iface 85 (.pointer (some t)))).run Tryz.prog w = .ok (.agg #[.pointer (some ⟨7, 85, none⟩), .pointer (some ⟨w.heap.size, 0, none⟩), .int .u64 150]) (w.alloc (.cells #[.pointer (some t)] 85)) := by kernel_rfl
theorem vo_pl (t : Addr) (w : World) : (ReflectliteValue.unpack (.iface 84 (.pointer (some t)))).run Tryz.prog w = .ok (.agg #[.pointer (some ⟨7, 84, none⟩), .pointer (some ⟨w.heap.size, 0, none⟩), .int .u64 150]) (w.alloc (.cells #[.pointer (some t)] 84)) := by kernel_rfl
theorem ty_pf (a : Addr) (w : World) : (ReflectliteValue.methodAny (ReflectliteValue.valueError "reflectlite.Value.Type" 0) (fun t _ _ _ => ReflectliteType.toType t) #[.agg #[.pointer (some ⟨7, 85, none⟩), .pointer (some a), .int .u64 150]]).run Tryz.prog w = .ok (.iface 127 (.agg #[.pointer (some ⟨7, 85, none⟩)])) w := by kernel_rfl
theorem ty_pl (a : Addr) (w : World) : (ReflectliteValue.methodAny (ReflectliteValue.valueError "reflectlite.Value.Type" 0) (fun t _ _ _ => ReflectliteType.toType t) #[.agg #[.pointer (some ⟨7, 84, none⟩), .pointer (some a), .int .u64 150]]).run Tryz.prog w = .ok (.iface 127 (.agg #[.pointer (some ⟨7, 84, none⟩)])) w := by kernel_rfl
theorem m_kind (n : Nat) (h : Value) (w : World) : (Go.method (n + 1) 127 (.agg #[h]) "Kind").run Tryz.prog w = .ok (138, h) w := by kernel_rfl
theorem m_elem (n : Nat) (h : Value) (w : World) : (Go.method (n + 1) 127 (.agg #[h]) "Elem").run Tryz.prog w = .ok (151, .agg #[h]) w := by kernel_rfl
theorem m_impl (n : Nat) (h : Value) (w : World) : (Go.method (n + 1) 127 (.agg #[h]) "Implements").run Tryz.prog w = .ok (152, .agg #[h]) w := by kernel_rfl
theorem m_asgn (n : Nat) (h : Value) (w : World) : (Go.method (n + 1) 127 (.agg #[h]) "AssignableTo").run Tryz.prog w = .ok (149, .agg #[h]) w := by kernel_rfl
theorem m_unwrap (n : Nat) (h : Value) (w : World) : (Go.method (n + 1) 82 h "Unwrap").run Tryz.prog w = .ok (144, h) w := by kernel_rfl
theorem k_pf (w : World) : ((ReflectliteType.abiMethod fun t => (fun a : Nat => Value.int IntKind.u8 (a : Int)) <$> Rtype.kind t) #[.pointer (some ⟨7, 85, none⟩)]).run Tryz.prog w = .ok (.int .u8 22) w := by kernel_rfl
theorem k_pl (w : World) : ((ReflectliteType.abiMethod fun t => (fun a : Nat => Value.int IntKind.u8 (a : Int)) <$> Rtype.kind t) #[.pointer (some ⟨7, 84, none⟩)]).run Tryz.prog w = .ok (.int .u8 22) w := by kernel_rfl
theorem k_f (w : World) : ((ReflectliteType.abiMethod fun t => (fun a : Nat => Value.int IntKind.u8 (a : Int)) <$> Rtype.kind t) #[.pointer (some ⟨7, 77, none⟩)]).run Tryz.prog w = .ok (.int .u8 2) w := by kernel_rfl
theorem k_l (w : World) : ((ReflectliteType.abiMethod fun t => (fun a : Nat => Value.int IntKind.u8 (a : Int)) <$> Rtype.kind t) #[.pointer (some ⟨7, 82, none⟩)]).run Tryz.prog w = .ok (.int .u8 25) w := by kernel_rfl
theorem pt_pf (a : Addr) (w : World) : (ReflectliteValue.parts (.agg #[.pointer (some ⟨7, 85, none⟩), .pointer (some a), .int .u64 150])).run Tryz.prog w = .ok (some (85, a, 150)) w := by kernel_rfl
theorem pt_pl (a : Addr) (w : World) : (ReflectliteValue.parts (.agg #[.pointer (some ⟨7, 84, none⟩), .pointer (some a), .int .u64 150])).run Tryz.prog w = .ok (some (84, a, 150)) w := by kernel_rfl
theorem nil_pf (a p : Addr) (W : World) (ha : W.cell? a = some (.pointer (some p))) : (ReflectliteValue.method (ReflectliteValue.valueError "reflectlite.Value.IsNil" 0) ReflectliteValue.isNil #[.agg #[.pointer (some ⟨7, 85, none⟩), .pointer (some a), .int .u64 150]]).run Tryz.prog W = .ok (.bool false) W := by
  rw [Lib.rl_method]
  simp only [Sem.run_bind, pt_pf, Result.andThen]
  simp [ReflectliteValue.isNil, loadVar, isAgg, underlying, Tryz.underlying85, ha, Result.andThen]
theorem nil_pl (a p : Addr) (W : World) (ha : W.cell? a = some (.pointer (some p))) : (ReflectliteValue.method (ReflectliteValue.valueError "reflectlite.Value.IsNil" 0) ReflectliteValue.isNil #[.agg #[.pointer (some ⟨7, 84, none⟩), .pointer (some a), .int .u64 150]]).run Tryz.prog W = .ok (.bool false) W := by
  rw [Lib.rl_method]
  simp only [Sem.run_bind, pt_pl, Result.andThen]
  simp [ReflectliteValue.isNil, loadVar, isAgg, underlying, Tryz.underlying84, ha, Result.andThen]
theorem el_pf (w : World) : (ReflectliteType.method ReflectliteType.elem #[.agg #[.pointer (some ⟨7, 85, none⟩)]]).run Tryz.prog w = .ok (.iface 127 (.agg #[.pointer (some ⟨7, 77, none⟩)])) w := by kernel_rfl
theorem el_pl (w : World) : (ReflectliteType.method ReflectliteType.elem #[.agg #[.pointer (some ⟨7, 84, none⟩)]]).run Tryz.prog w = .ok (.iface 127 (.agg #[.pointer (some ⟨7, 82, none⟩)])) w := by kernel_rfl
theorem im_f (w : World) : (ReflectliteType.relation "Implements" ReflectliteType.implements_ #[.agg #[.pointer (some ⟨7, 77, none⟩)], .iface 127 (.agg #[.pointer (some ⟨7, 54, none⟩)])]).run Tryz.prog w = .ok (.bool true) w := by kernel_rfl
theorem im_l (w : World) : (ReflectliteType.relation "Implements" ReflectliteType.implements_ #[.agg #[.pointer (some ⟨7, 82, none⟩)], .iface 127 (.agg #[.pointer (some ⟨7, 54, none⟩)])]).run Tryz.prog w = .ok (.bool true) w := by kernel_rfl
theorem to_f (v : Value) (w : World) : (ReflectliteType.typeOf #[.iface 77 v]).run Tryz.prog w = .ok (.iface 127 (.agg #[.pointer (some ⟨7, 77, none⟩)])) w := by kernel_rfl
theorem to_l (v : Value) (w : World) : (ReflectliteType.typeOf #[.iface 82 v]).run Tryz.prog w = .ok (.iface 127 (.agg #[.pointer (some ⟨7, 82, none⟩)])) w := by kernel_rfl
theorem as_f_f (w : World) : (ReflectliteType.relation "AssignableTo" ReflectliteType.assignableTo #[.agg #[.pointer (some ⟨7, 77, none⟩)], .iface 127 (.agg #[.pointer (some ⟨7, 77, none⟩)])]).run Tryz.prog w = .ok (.bool true) w := by kernel_rfl
theorem as_l_l (w : World) : (ReflectliteType.relation "AssignableTo" ReflectliteType.assignableTo #[.agg #[.pointer (some ⟨7, 82, none⟩)], .iface 127 (.agg #[.pointer (some ⟨7, 82, none⟩)])]).run Tryz.prog w = .ok (.bool true) w := by kernel_rfl
theorem as_l_f (w : World) : (ReflectliteType.relation "AssignableTo" ReflectliteType.assignableTo #[.agg #[.pointer (some ⟨7, 82, none⟩)], .iface 127 (.agg #[.pointer (some ⟨7, 77, none⟩)])]).run Tryz.prog w = .ok (.bool false) w := by kernel_rfl
theorem as_f_l (w : World) : (ReflectliteType.relation "AssignableTo" ReflectliteType.assignableTo #[.agg #[.pointer (some ⟨7, 77, none⟩)], .iface 127 (.agg #[.pointer (some ⟨7, 82, none⟩)])]).run Tryz.prog w = .ok (.bool false) w := by kernel_rfl
theorem vo_f (n : Int) (w : World) : (ReflectliteValue.unpack (.iface 77 (.int .i64 n))).run Tryz.prog w = .ok (.agg #[.pointer (some ⟨7, 77, none⟩), .pointer (some ⟨w.heap.size, 0, none⟩), .int .u64 130]) (w.alloc (.cells #[.int .i64 n] 77)) := by kernel_rfl
theorem vo_l (k : Int) (t : TypeId) (v : Value) (w : World) : (ReflectliteValue.unpack (.iface 82 (.agg #[.int .i64 k, .iface t v]))).run Tryz.prog w = .ok (.agg #[.pointer (some ⟨7, 82, none⟩), .pointer (some ⟨w.heap.size, 0, none⟩), .int .u64 153]) (w.alloc (.cells #[.int .i64 k, .iface t v] 82)) := by kernel_rfl
theorem eo_pf (w : World) : (Rtype.elem? 85).run Tryz.prog w = .ok (some 77) w := by kernel_rfl
theorem eo_pl (w : World) : (Rtype.elem? 84).run Tryz.prog w = .ok (some 82) w := by kernel_rfl
theorem mk_f (p : Addr) (w : World) : (ReflectliteValue.mk 77 p ReflectliteValue.flagAddr).run Tryz.prog w = .ok (.agg #[.pointer (some ⟨7, 77, none⟩), .pointer (some p), .int .u64 386]) w := by kernel_rfl
theorem mk_l (p : Addr) (w : World) : (ReflectliteValue.mk 82 p ReflectliteValue.flagAddr).run Tryz.prog w = .ok (.agg #[.pointer (some ⟨7, 82, none⟩), .pointer (some p), .int .u64 409]) w := by kernel_rfl
theorem ev_pf (a p : Addr) (W : World) (ha : W.cell? a = some (.pointer (some p))) : (ReflectliteValue.method (ReflectliteValue.valueError "reflectlite.Value.Elem" 0) ReflectliteValue.elem #[.agg #[.pointer (some ⟨7, 85, none⟩), .pointer (some a), .int .u64 150]]).run Tryz.prog W = .ok (.agg #[.pointer (some ⟨7, 77, none⟩), .pointer (some p), .int .u64 386]) W := by
  rw [Lib.rl_method]
  simp only [Sem.run_bind, pt_pf, Result.andThen]
  simp [ReflectliteValue.elem, loadVar, isAgg, underlying, Tryz.underlying85, ha, Result.andThen, eo_pf, mk_f]
theorem ev_pl (a p : Addr) (W : World) (ha : W.cell? a = some (.pointer (some p))) : (ReflectliteValue.method (ReflectliteValue.valueError "reflectlite.Value.Elem" 0) ReflectliteValue.elem #[.agg #[.pointer (some ⟨7, 84, none⟩), .pointer (some a), .int .u64 150]]).run Tryz.prog W = .ok (.agg #[.pointer (some ⟨7, 82, none⟩), .pointer (some p), .int .u64 409]) W := by
  rw [Lib.rl_method]
  simp only [Sem.run_bind, pt_pl, Result.andThen]
  simp [ReflectliteValue.elem, loadVar, isAgg, underlying, Tryz.underlying84, ha, Result.andThen, eo_pl, mk_l]
theorem pt_fa (a : Addr) (w : World) : (ReflectliteValue.parts (.agg #[.pointer (some ⟨7, 77, none⟩), .pointer (some a), .int .u64 386])).run Tryz.prog w = .ok (some (77, a, 386)) w := by kernel_rfl
theorem pt_f (a : Addr) (w : World) : (ReflectliteValue.parts (.agg #[.pointer (some ⟨7, 77, none⟩), .pointer (some a), .int .u64 130])).run Tryz.prog w = .ok (some (77, a, 130)) w := by kernel_rfl
theorem pt_la (a : Addr) (w : World) : (ReflectliteValue.parts (.agg #[.pointer (some ⟨7, 82, none⟩), .pointer (some a), .int .u64 409])).run Tryz.prog w = .ok (some (82, a, 409)) w := by kernel_rfl
theorem pt_l (a : Addr) (w : World) : (ReflectliteValue.parts (.agg #[.pointer (some ⟨7, 82, none⟩), .pointer (some a), .int .u64 153])).run Tryz.prog w = .ok (some (82, a, 153)) w := by kernel_rfl
theorem da_f (w : World) : (Rtype.directlyAssignable 77 77).run Tryz.prog w = .ok true w := by kernel_rfl
theorem da_l (w : World) : (Rtype.directlyAssignable 82 82).run Tryz.prog w = .ok true w := by kernel_rfl
theorem set_rf (ta b : Addr) (W : World) : (ReflectliteValue.set #[.agg #[.pointer (some ⟨7, 77, none⟩), .pointer (some ta), .int .u64 386], .agg #[.pointer (some ⟨7, 77, none⟩), .pointer (some b), .int .u64 130]]).run Tryz.prog W = (loadVar 77 b >>= fun x => storeVar 77 ta x >>= fun _ => pure (.tuple #[])).run Tryz.prog W := by kernel_rfl
theorem set_rl (ta b : Addr) (W : World) : (ReflectliteValue.set #[.agg #[.pointer (some ⟨7, 82, none⟩), .pointer (some ta), .int .u64 409], .agg #[.pointer (some ⟨7, 82, none⟩), .pointer (some b), .int .u64 153]]).run Tryz.prog W = (loadVar 82 b >>= fun x => storeVar 82 ta x >>= fun _ => pure (.tuple #[])).run Tryz.prog W := by kernel_rfl
end Go.Proofs.YtcomelbphdjnnaaGreatDoor.Sc
