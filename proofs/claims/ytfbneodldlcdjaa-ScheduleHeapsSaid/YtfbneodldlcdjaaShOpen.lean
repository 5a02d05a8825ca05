/-
  OPENING lists of acts that came in, with their reach.
-/
import Derived.Test.YtfbneodldlcdjaaMdOpen
import Derived.Test.YtfbneodldlcdjaaMdOpenC
import Derived.ChangeArms
namespace Go.Proofs.Ytfbneodldlcdjaa.Sh
open Go.ChangeShapes Go.WideShapes Go.ChangeAt Go.RowKit Go.Deep
open Mr Md
set_option linter.unusedVariables false
set_option maxRecDepth 100000
structure Ac where
  o : Bool
  k : Int
  v : Int
def Ac.row (a : Ac) : List Value := [.bool a.o, .int .i64 a.k, .int .i64 a.v]
def acs (l : List Ac) : List Value := l.flatMap Ac.row
theorem acs_get {l : List Ac} {i : Nat} {a : Ac} (h : l[i]? = some a) : (acs l)[i * 3]? = some (.bool a.o) ∧ (acs l)[i * 3 + 1]? = some (.int .i64 a.k) ∧ (acs l)[i * 3 + 2]? = some (.int .i64 a.v) := by
  have h1 := flat_get Ac.row 3 (fun _ => rfl) l i a h
  exact ⟨h1 0 (by omega), h1 1 (by omega), h1 2 (by omega)⟩
theorem cells_int : Try.prog.cellsOf 3 = 1 := by kernel_rfl
theorem cells_bool : Try.prog.cellsOf 4 = 1 := by kernel_rfl
theorem cells_act : Try.prog.cellsOf 46 = 3 := by kernel_rfl
theorem bytes_act : Try.prog.bytesOf 46 = 24 := by kernel_rfl
section
variable {H : Type} {enc : TypeId × Value → H} {w : World} {base : Nat} {spare : Nat → Bool} {held : Bool}
theorem trod_act {fuel : Nat} {cs : List Value} {x : DataW H × List MemPlace} (hf : DataW.trod enc Try.prog w base spare held fuel 46 cs = some x) : ∃ c : Ac, cs = c.row := by
  obtain ⟨xs, n, _, hxx, hl, hxl, hx⟩ := DataW.trod_struct Try.underlying46 hf
  rw [cells_act] at hl
  match cs, hl with
  | [x0, x1, x2], _ =>
    have q0 := hx 0 _ rfl
    have q1 := hx 1 _ rfl
    have q2 := hx 2 _ rfl
    have hxs : xs.length = 3 := by simpa using hxl
    match xs, hxs with
    | [y0, y1, y2], _ =>
      simp [cells_int, cells_bool] at q0 q1 q2
      obtain ⟨z0, e0, _⟩ := DataW.trod_bool Try.underlying4 q0
      obtain ⟨z1, e1, _⟩ := DataW.trod_int Try.underlying3 q1
      obtain ⟨z2, e2, _⟩ := DataW.trod_int Try.underlying3 q2
      simp at e0 e1 e2
      subst e0; subst e1; subst e2
      exact ⟨⟨z0, z1, z2⟩, rfl⟩
theorem open_asl {fuel : Nat} {cs : List Value} {x : DataW H × List MemPlace} (hf : DataW.trod enc Try.prog w base spare held fuel 35 cs = some x) :
    ∃ v l, cs = [v] ∧ Sl w (fun _ => True) 3 v l.length (acs l) := by
  rcases open_slice Try.underlying35 hf with ⟨hc, hx⟩ | ⟨ad, n, cap, m, k, D, Pl, hc, _, hl, _, hm, hx, hel⟩
  · exact ⟨_, [], hc, Sl.nil _ _ _⟩
  · have hle : n ≤ m := by rw [hm]; split <;> omega
    obtain ⟨l, hs, hn⟩ := sl_rows (w := w) (ad := ad) (n := n) (cap := cap) ⟨false, 0, 0⟩ Ac.row 3 (by omega) (fun _ => rfl) (by omega) (fun i hi => by
      obtain ⟨cs, h1, h2⟩ := hel i (by omega)
      rw [cells_act] at h1
      obtain ⟨_, hcl, hce⟩ := World.cells?_some h1
      obtain ⟨c, hcc⟩ := trod_act h2
      exact ⟨c, fun t ht => by rw [← hcc]; exact hce t (by omega)⟩)
    exact ⟨_, l, by rw [hc, hn], hs⟩
theorem open_acts {r : Reach} {b0 : Nat} {v : Value} {d : DataW H} {p : List MemPlace} (hv : Value.okWide Try.prog w r b0 35 v) (h : DataW.Trod enc Try.prog w base spare held 35 v d p) (hsz : (d.weights Try.prog 35).all (· ≤ reachBytes) = true) :
    ∃ l, Sl w (fun _ => True) 3 v l.length (acs l) ∧ l.length * 24 ≤ 140737488351232 := by
  obtain ⟨a, n, cap, rfl⟩ := okWide_slice Try.underlying35 hv
  obtain ⟨fuel, hf⟩ := h
  have e0 : (Value.slice a n cap).cells.toList = [.slice a n cap] := rfl
  rw [e0] at hf
  obtain ⟨w0, l, e1, hs⟩ := open_asl hf
  simp at e1
  subst e1
  have f := len_slice Try.underlying35 hf rfl hs
  refine ⟨l, hs, ?_⟩
  rcases f with f | ⟨es, rs, hd, hl⟩
  · omega
  · simp only at hd
    subst hd
    simp only [DataW.weights, Try.underlying35, List.all_cons, Bool.and_eq_true, decide_eq_true_eq, bytes_act] at hsz
    have e : reachBytes = 140737488351232 := by decide
    have := hsz.1
    rw [e, Nat.add_mul] at this
    omega
end
theorem act_at {W : World} {T : Nat → Prop} {v : Value} {l : List Ac} (h : Sl W T 3 v l.length (acs l)) {i : Nat} {a : Ac} (hx : l[i]? = some a) : ∃ g o cap, v = .slice (some ⟨g, o, none⟩) l.length cap ∧ W.cell? ⟨g, o + i * 3, none⟩ = some (.bool a.o) ∧ W.cell? ⟨g, o + i * 3 + 1, none⟩ = some (.int .i64 a.k) ∧ W.cell? ⟨g, o + i * 3 + 2, none⟩ = some (.int .i64 a.v) ∧ g < W.heap.size := by
  have hi := (List.getElem?_eq_some_iff.1 hx).1
  obtain ⟨g, o, c, e, _, _, hl, r⟩ := h.there (by omega)
  obtain ⟨h1, h2, h3⟩ := acs_get hx
  exact ⟨g, o, c, e, r _ _ h1, r _ _ h2, r _ _ h3, hl⟩
end Go.Proofs.Ytfbneodldlcdjaa.Sh
