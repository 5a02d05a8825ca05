/-
  OPENING what WordBack is handed (reclaimlaw01.Back).
-/
import Derived.Test.YtpmpdkpnjfidhaaDoorChecked
import Derived.WalkKit
import Derived.ProofKit
import Derived.OpenShut
import Derived.Below
namespace Go.Proofs.YtpmpdkpnjfidhaaDoor.Opn
open Go.ChangeShapes Go.WideShapes Go.ChangeAt Go.RowKit
theorem cells_back : Tryd.prog.cellsOf 38 = 8 := by kernel_rfl
theorem cells_pl : Tryd.prog.cellsOf 24 = 3 := by kernel_rfl
theorem cells_in : Tryd.prog.cellsOf 3 = 1 := by kernel_rfl
theorem cells_bo : Tryd.prog.cellsOf 4 = 1 := by kernel_rfl
theorem cells_u3 : Tryd.prog.cellsOf 35 = 1 := by kernel_rfl
theorem cells_re : Tryd.prog.cellsOf 22 = 1 := by kernel_rfl
theorem cells_u6 : Tryd.prog.cellsOf 36 = 1 := by kernel_rfl
set_option maxRecDepth 100000 in
theorem open_back {H : Type} {enc : TypeId × Value → H} {w : World} {base : Nat} {spare : Nat → Bool} {held : Bool} {r : Reach} {b0 : Nat} {v : Value} {d : DataW H} {p : List MemPlace}
    (hv : Value.okWide Tryd.prog w r b0 38 v) (h : DataW.Trod enc Tryd.prog w base spare held 38 v d p) :
    ∃ (ix : Int) (mk : Bool) (tg r i k g x : Int), v = .agg #[.int .i64 ix, .bool mk, .int .u32 tg, .int .i64 r, .int .i64 i, .int .i64 k, .int .i64 g, .int .u64 x] ∧ ((Lit.int .u32 tg).wf = true ∧ (Lit.int .u64 x).wf = true) := by
  obtain ⟨cs, rfl, hsz⟩ := okWide_struct Tryd.underlying38 hv
  rw [cells_back] at hsz
  obtain ⟨fuel, hfu⟩ := h
  obtain ⟨xs, n, _, _, hl, hxl, hx⟩ := DataW.trod_struct Tryd.underlying38 hfu
  have hcs : (Value.agg cs).cells.toList = cs.toList := rfl
  rw [hcs] at hx
  obtain ⟨l, rfl⟩ : ∃ l : List Value, cs = l.toArray := ⟨cs.toList, by simp⟩
  match l, hsz with
  | [x0, x1, x2, x3, x4, x5, x6, x7], _ =>
    have q0 := hx 0 _ rfl
    have q1 := hx 1 _ rfl
    have q2 := hx 2 _ rfl
    have q3 := hx 3 _ rfl
    have q4 := hx 4 _ rfl
    have q5 := hx 5 _ rfl
    have hxs : xs.length = 6 := by simpa using hxl
    match xs, hxs with
    | [y0, y1, y2, y3, y4, y5], _ =>
      obtain ⟨z0, e0, _, _⟩ := DataW.trod_int Tryd.underlying3 q0
      obtain ⟨z1, e1, _⟩ := DataW.trod_bool Tryd.underlying4 q1
      obtain ⟨z2, e2, _, w2⟩ := DataW.trod_int Tryd.underlying35 q2
      obtain ⟨ys, m, _, _, hl3, hyl, hy⟩ := DataW.trod_struct Tryd.underlying24 q3
      obtain ⟨z6, e6, _, _⟩ := DataW.trod_int Tryd.underlying22 q4
      obtain ⟨z7, e7, _, w7⟩ := DataW.trod_int Tryd.underlying36 q5
      have t0 := hy 0 _ rfl
      have t1 := hy 1 _ rfl
      have t2 := hy 2 _ rfl
      have hys : ys.length = 3 := by simpa using hyl
      match ys, hys with
      | [u0, u1, u2], _ =>
        obtain ⟨z3, e3, _, _⟩ := DataW.trod_int Tryd.underlying22 t0
        obtain ⟨z4, e4, _, _⟩ := DataW.trod_int Tryd.underlying3 t1
        obtain ⟨z5, e5, _, _⟩ := DataW.trod_int Tryd.underlying3 t2
        simp [cells_in, cells_bo, cells_u3, cells_pl, cells_re, cells_u6] at e0 e1 e2 e3 e4 e5 e6 e7
        subst e0; subst e1; subst e2; subst e3; subst e4; subst e5; subst e6; subst e7
        exact ⟨z0, z1, z2, z3, z4, z5, z6, z7, rfl, w2, w7⟩
end Go.Proofs.YtpmpdkpnjfidhaaDoor.Opn
