/-
  DEQUE, Holds and Spread: calls, their rows; what the chapter asks of a run, pure.
-/
import Derived.Test.YtaojggnflblgnaaMpRow
import Derived.Test.YtaojggnflblgnaaDqLeft
import Derived.Test.YtaojggnflblgnaaChecked
import Derived.WalkKit
import Derived.WalkSpells
import Derived.WalkLawsBesides
import Derived.OpenShut
import Derived.Outline
import Derived.Below
import Derived.Deep.MidRow
import Derived.Deep.DeepCutAuto
import Derived.Deep.RegionHeld3
import Derived.Deep.Upon
namespace Go.Proofs.Ytaojggnflblgnaa.Hd
open Go.RowKit Mr Md
set_option linter.unusedVariables false
set_option linter.unusedSimpArgs false
set_option maxRecDepth 100000
/-- A call. -/
structure Cq where
  th : Int
  op : Int
  arg : Int
  data : Int
  beg : Int
  fin : Int
  pt : Int
  ak : Int
  av : Int
deriving DecidableEq
instance : Inhabited Cq := ⟨⟨0, 0, 0, 0, 0, 0, 0, 0, 0⟩⟩
def Cq.val (c : Cq) : Value := .agg #[.int .i64 c.th, .int .i64 c.op, .int .i64 c.arg, .int .i64 c.data, .int .i64 c.beg, .int .i64 c.fin, .int .i64 c.pt, .int .i64 c.ak, .int .i64 c.av]
def cqO (c : Cq) : Obj := .cells #[.int .i64 c.th, .int .i64 c.op, .int .i64 c.arg, .int .i64 c.data, .int .i64 c.beg, .int .i64 c.fin, .int .i64 c.pt, .int .i64 c.ak, .int .i64 c.av] 52 (0, 0)
def Cq.row (c : Cq) : List Value := [.int .i64 c.th, .int .i64 c.op, .int .i64 c.arg, .int .i64 c.data, .int .i64 c.beg, .int .i64 c.fin, .int .i64 c.pt, .int .i64 c.ak, .int .i64 c.av]
def cqs (l : List Cq) : List Value := l.flatMap Cq.row
theorem cqs_get (l : List Cq) (i : Nat) (c : Cq) (h : l[i]? = some c) (j : Nat) (hj : j < 9) : (cqs l)[i * 9 + j]? = c.row[j]? := by
  induction l generalizing i with
  | nil => simp at h
  | cons x l ih =>
    cases i with
    | zero =>
      simp at h; subst h
      simp only [cqs, List.flatMap_cons]
      rw [List.getElem?_append_left (by simp [Cq.row]; omega)]
      simp
    | succ i =>
      have := ih i (by simpa using h)
      simp only [cqs, List.flatMap_cons] at this ⊢
      rw [List.getElem?_append_right (by simp [Cq.row]; omega)]
      rw [← this]
      congr 1
      simp [Cq.row]; omega
theorem cqs_length (l : List Cq) : (cqs l).length = l.length * 9 := by
  induction l with
  | nil => rfl
  | cons x l ih => simp only [cqs, List.flatMap_cons, List.length_append] at ih ⊢; simp [Cq.row] at ih ⊢; omega
theorem cqs_app (l k : List Cq) : cqs (l ++ k) = cqs l ++ cqs k := by simp [cqs]
theorem cqs_one (l : List Cq) : ∀ u ∈ cqs l, u.oneCell' = true := by
  intro u hu
  simp only [cqs, List.mem_flatMap] at hu
  obtain ⟨c, _, h⟩ := hu
  simp [Cq.row] at h
  rcases h with rfl | rfl | rfl | rfl | rfl | rfl | rfl | rfl | rfl <;> rfl
/-- The nine cells of a call. -/
structure CqAt (w : World) (b o : Nat) (a : Cq) : Prop where
  lt : b < w.heap.size
  c0 : w.cell? ⟨b, o, none⟩ = some (.int .i64 a.th)
  c1 : w.cell? ⟨b, o + 1, none⟩ = some (.int .i64 a.op)
  c2 : w.cell? ⟨b, o + 2, none⟩ = some (.int .i64 a.arg)
  c3 : w.cell? ⟨b, o + 3, none⟩ = some (.int .i64 a.data)
  c4 : w.cell? ⟨b, o + 4, none⟩ = some (.int .i64 a.beg)
  c5 : w.cell? ⟨b, o + 5, none⟩ = some (.int .i64 a.fin)
  c6 : w.cell? ⟨b, o + 6, none⟩ = some (.int .i64 a.pt)
  c7 : w.cell? ⟨b, o + 7, none⟩ = some (.int .i64 a.ak)
  c8 : w.cell? ⟨b, o + 8, none⟩ = some (.int .i64 a.av)
theorem cqx_at {W : World} {T : Nat → Prop} {a : Option Addr} {cap : Nat} {es : List Cq} (h : Sl W T 9 (.slice a es.length cap) es.length (cqs es)) {i : Nat} {e : Cq} (hc : es[i]? = some e) :
    ∃ b o, a = some ⟨b, o, none⟩ ∧ T b ∧ CqAt W b (o + i * 9) e := by
  have hi := (List.getElem?_eq_some_iff.1 hc).1
  obtain ⟨b, o, cap', hv, _, hT, hl, hr⟩ := h.there (by omega)
  cases hv
  have hg := fun j (hj : j < 9) => cqs_get es i e hc j hj
  exact ⟨b, o, rfl, hT, hl, hr (i * 9 + 0) _ (hg 0 (by omega)), hr (i * 9 + 1) _ (hg 1 (by omega)), hr (i * 9 + 2) _ (hg 2 (by omega)), hr (i * 9 + 3) _ (hg 3 (by omega)), hr (i * 9 + 4) _ (hg 4 (by omega)), hr (i * 9 + 5) _ (hg 5 (by omega)), hr (i * 9 + 6) _ (hg 6 (by omega)), hr (i * 9 + 7) _ (hg 7 (by omega)), hr (i * 9 + 8) _ (hg 8 (by omega))⟩
theorem CqAt.below {w w' : World} {b o : Nat} {a : Cq} (h : CqAt w b o a) (hB : Below w.heap.size w w') : CqAt w' b o a := by
  have k := fun j => hB.cell (p := ⟨b, j, none⟩) h.lt
  exact ⟨Nat.lt_of_lt_of_le h.lt hB.size, (k _).trans h.c0, (k _).trans h.c1, (k _).trans h.c2, (k _).trans h.c3, (k _).trans h.c4, (k _).trans h.c5, (k _).trans h.c6, (k _).trans h.c7, (k _).trans h.c8⟩
theorem new_at (W : World) (o : Obj) (k : Nat) (hk : k = W.heap.size) : (W.alloc o).heap[k]? = some o := by subst hk; exact heap_alloc_new W o
theorem old_at {W : World} {k : Nat} {x : Obj} (h : W.heap[k]? = some x) (o : Obj) : (W.alloc o).heap[k]? = some x := by
  have hlt := (Array.getElem?_eq_some_iff.1 h).1
  rw [heap_alloc_old _ _ hlt]; exact h
theorem cqO_cells {W : World} {b : Nat} {a : Cq} (h : W.heap[b]? = some (cqO a)) : CqAt W b 0 a := by
  have hlt := (Array.getElem?_eq_some_iff.1 h).1
  unfold cqO at h
  exact ⟨hlt, by simp [World.cell?, h], by simp [World.cell?, h], by simp [World.cell?, h], by simp [World.cell?, h], by simp [World.cell?, h], by simp [World.cell?, h], by simp [World.cell?, h], by simp [World.cell?, h], by simp [World.cell?, h]⟩
/-! What the chapter asks. -/
def rk (op : Int) : Int := if op = 92 then 0 else 1
def kn (th : Int) (c : Cq) : Bool := if c.op = 90 ∨ c.op = 91 then decide (c.th = 0) else if c.op = 92 then decide (0 ≤ c.th ∧ c.th < th) else false
def cmpI (a b : Int) : Int := if a < b then -1 else if a = b then 0 else 1
theorem cmpI_lt {a b : Int} (h : a < b) : cmpI a b = -1 := if_pos h
theorem cmpI_eq (a : Int) : cmpI a a = 0 := by unfold cmpI; rw [if_neg (by omega), if_pos rfl]
theorem cmpI_gt {a b : Int} (h : b < a) : cmpI a b = 1 := by unfold cmpI; rw [if_neg (by omega), if_neg (by omega)]
def cmpC (a b : Cq) : Int := if cmpI a.pt b.pt = 0 then cmpI (rk a.op) (rk b.op) else cmpI a.pt b.pt
def Cq.lt (a b : Cq) : Prop := a.pt < b.pt ∨ (a.pt = b.pt ∧ rk a.op < rk b.op)
/-- Two in a row that may stand so. -/
def apc (a b : Cq) : Bool := !(decide (a.pt = b.pt) && !(decide (a.op = 92) && decide (b.op = 91)))
def apR : List Cq → Bool
  | [] => true
  | [_] => true
  | a :: b :: l => apc a b && apR (b :: l)
def pts (cs : List Cq) : List Cq := cs.filter (fun c => c.pt ≠ -1)
def unt (c : Cq) : Bool := decide (c.pt ≤ c.beg) || (decide (c.fin ≠ -1) && decide (c.fin < c.pt))
/-- At once: what is left, the answer. -/
def atO (rm : Int) (vs : List Int) (c : Cq) : List Int × Int × Int :=
  if c.op = 90 ∧ rm ≤ (vs.length : Int) then (vs, 4, 0)
  else if c.op = 90 then (vs ++ [c.arg], 1, 0)
  else if vs.length = 0 then ([], 3, 0)
  else if c.op = 91 then (vs.take (vs.length - 1), 2, (vs[vs.length - 1]?).getD 0)
  else (vs.drop 1, 2, (vs[0]?).getD 0)
def okA (c : Cq) (a : Int × Int) : Bool := decide (c.fin = -1) || (decide (c.ak = a.1) && decide (c.av = a.2))
def expl (rm : Int) : List Int → List Cq → Bool
  | _, [] => true
  | vs, c :: l => okA c (atO rm vs c).2 && expl rm (atO rm vs c).1 l
theorem rk_in (op : Int) : rk op = 0 ∨ rk op = 1 := by unfold rk; split <;> simp
theorem Cq.lt_irrefl {a : Cq} : ¬ Cq.lt a a := by unfold Cq.lt; omega
theorem Cq.lt_trans {a b c : Cq} (h : Cq.lt a b) (k : Cq.lt b c) : Cq.lt a c := by unfold Cq.lt at *; omega
theorem Cq.lt_asymm {a b : Cq} (h : Cq.lt a b) : ¬ Cq.lt b a := by unfold Cq.lt at *; omega
/-- Of two that may stand so and in their order, the one is ahead. -/
theorem apc_lt {a b : Cq} (h : ¬ Cq.lt b a) (k : apc a b = true) : Cq.lt a b := by
  unfold apc at k
  unfold Cq.lt at *
  by_cases e : a.pt = b.pt
  · simp [e] at k
    right
    refine ⟨e, ?_⟩
    simp [rk, k.1, k.2]
  · omega
theorem apR_up : ∀ {l : List Cq}, l.Pairwise (fun a b => ¬ Cq.lt b a) → apR l = true → l.Pairwise Cq.lt
  | [], _, _ => List.Pairwise.nil
  | [a], _, _ => by simp
  | a :: b :: l, h, k => by
    rw [apR, Bool.and_eq_true] at k
    have h2 := List.pairwise_cons.1 h
    have ih := apR_up h2.2 k.2
    refine List.pairwise_cons.2 ⟨fun c hc => ?_, ih⟩
    have hab := apc_lt (h2.1 b (by simp)) k.1
    rcases List.mem_cons.1 hc with rfl | hc
    · exact hab
    · exact Cq.lt_trans hab ((List.pairwise_cons.1 ih).1 c hc)
/-- Two orders of the same calls: where one may stand so, they are one. -/
theorem ap_same {l k : List Cq} (hp : l.Perm k) (hl : l.Pairwise (fun a b => ¬ Cq.lt b a)) (hk : k.Pairwise (fun a b => ¬ Cq.lt b a)) (h : apR l = true) : l = k := by
  have ul := apR_up hl h
  refine List.Perm.eq_of_pairwise (le := fun a b => ¬ Cq.lt b a) (fun a b ha hb h1 h2 => ?_) hl hk hp
  have hb' : b ∈ l := hp.mem_iff.2 hb
  obtain ⟨i, hi, rfl⟩ := List.mem_iff_getElem.1 ha
  obtain ⟨j, hj, rfl⟩ := List.mem_iff_getElem.1 hb'
  rcases Nat.lt_trichotomy i j with hij | hij | hij
  · exact absurd (List.pairwise_iff_getElem.1 ul i j hi hj hij) h2
  · subst hij; rfl
  · exact absurd (List.pairwise_iff_getElem.1 ul j i hj hi hij) h1
theorem ap_eq {l k : List Cq} (hp : l.Perm k) (hl : l.Pairwise (fun a b => ¬ Cq.lt b a)) (hk : k.Pairwise (fun a b => ¬ Cq.lt b a)) : apR l = apR k := by
  cases h : apR l with
  | true => rw [← ap_same hp hl hk h]; exact h.symm
  | false =>
    cases h' : apR k with
    | false => rfl
    | true => rw [ap_same hp.symm hk hl h'] at h'; rw [h] at h'; cases h'
end Go.Proofs.Ytaojggnflblgnaa.Hd
