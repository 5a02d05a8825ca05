import Derived.Test.YtpknggcgojkjgaaGreatJ08
import Derived.BigQuiet
/-
  CENSUS: monitors are told of all events, in their order.
-/
namespace Go.Proofs.YtpknggcgojkjgaaGreat.Cn
open Go.RowKit Mr Md
set_option linter.unusedVariables false
set_option linter.unusedSimpArgs false
set_option maxRecDepth 100000
def opn (e : Ev) : Ev := ⟨0, e.mv, e.th, 0⟩
def cls (e : Ev) : Ev := ⟨5, e.mv, e.th, 0⟩
def evAt (es : List Ev) (i : Nat) : Ev := es[i]?.getD default
def fstB (es : List Ev) (i : Nat) : Bool := decide (i = 0) || (evAt es (i - 1)).mv != (evAt es i).mv
def lstB (es : List Ev) (i : Nat) : Bool := decide (i + 1 = es.length) || (evAt es (i + 1)).mv != (evAt es i).mv
section
variable {σ : Type}
def roundM (T : Nat → σ → Ev → σ × Bool) (f l : Bool) (s : σ) (e : Ev) : σ × Bool :=
  let r := if f then T 0 s (opn e) else (s, true)
  if r.2 = false then r else
    let q := T e.kd.toNat r.1 e
    if q.2 = false then q else if l then T 5 q.1 (cls e) else q
def watchN (T : Nat → σ → Ev → σ × Bool) (es : List Ev) (s : σ) : Nat → σ × Bool
  | 0 => (s, true)
  | n + 1 => if (watchN T es s n).2 = false then watchN T es s n else roundM T (fstB es n) (lstB es n) (watchN T es s n).1 (evAt es n)
theorem watchN_no {T : Nat → σ → Ev → σ × Bool} {es : List Ev} {s : σ} {i : Nat} (h : (watchN T es s i).2 = false) : ∀ {n : Nat}, i ≤ n → watchN T es s n = watchN T es s i := by
  intro n
  induction n with
  | zero => intro hn; have : i = 0 := by omega
            subst this; rfl
  | succ n ih =>
    intro hn
    by_cases e : i = n + 1
    · subst e; rfl
    · have := ih (by omega)
      rw [watchN, this, if_pos h]
end
def Ev.row (e : Ev) : List Value := [.int .i64 e.kd, .int .i64 e.mv, .int .i64 e.th, .int .i64 e.nb]
def evs (l : List Ev) : List Value := l.flatMap Ev.row
theorem evs_get (l : List Ev) (i : Nat) (e : Ev) (h : l[i]? = some e) (j : Nat) (hj : j < 4) : (evs l)[i * 4 + j]? = e.row[j]? := by
  induction l generalizing i with
  | nil => simp at h
  | cons x l ih =>
    cases i with
    | zero => simp at h; subst h; simp only [evs, List.flatMap_cons, Nat.zero_mul, Nat.zero_add]; rw [List.getElem?_append_left (by simpa [Ev.row] using hj)]
    | succ i =>
      have := ih i (by simpa using h)
      simp only [evs, List.flatMap_cons] at this ⊢
      rw [List.getElem?_append_right (by simp [Ev.row]; omega), ← this]
      congr 1
      simp [Ev.row]; omega
theorem evs_length (l : List Ev) : (evs l).length = l.length * 4 := by
  induction l with
  | nil => rfl
  | cons x l ih => simp only [evs, List.flatMap_cons, List.length_append] at ih ⊢; simp [Ev.row] at ih ⊢; omega
/-- The four cells of an event in a row. -/
structure At4 (w : World) (b o : Nat) (e : Ev) : Prop where
  lt : b < w.heap.size
  c0 : w.cell? ⟨b, o, none⟩ = some (.int .i64 e.kd)
  c1 : w.cell? ⟨b, o + 1, none⟩ = some (.int .i64 e.mv)
  c2 : w.cell? ⟨b, o + 2, none⟩ = some (.int .i64 e.th)
  c3 : w.cell? ⟨b, o + 3, none⟩ = some (.int .i64 e.nb)
theorem ev_at {W : World} {T : Nat → Prop} {a : Option Addr} {cap : Nat} {es : List Ev} (h : Sl W T 4 (.slice a es.length cap) es.length (evs es)) {i : Nat} {e : Ev} (hc : es[i]? = some e) :
    ∃ b o, a = some ⟨b, o, none⟩ ∧ At4 W b (o + i * 4) e := by
  have hi := (List.getElem?_eq_some_iff.1 hc).1
  obtain ⟨b, o, cap', hv, _, _, hl, hr⟩ := h.there (by omega)
  cases hv
  have hg := fun j (hj : j < 4) => evs_get es i e hc j hj
  exact ⟨b, o, rfl, hl, hr (i * 4 + 0) _ (hg 0 (by omega)), hr (i * 4 + 1) _ (hg 1 (by omega)), hr (i * 4 + 2) _ (hg 2 (by omega)), hr (i * 4 + 3) _ (hg 3 (by omega))⟩
end Go.Proofs.YtpknggcgojkjgaaGreat.Cn
/-
  CENSUS: rows of accesses, of shifts; a run's four slices.
-/
namespace Go.Proofs.YtpknggcgojkjgaaGreat.Cn
open Go.RowKit Mr Md
set_option linter.unusedVariables false
set_option linter.unusedSimpArgs false
def cq0 : Cq := ⟨0, 0, 0, 0, 0, 0, 0, 0, 0⟩
def Ax.row (a : Ax) : List Value := [.int .i64 a.mv, .int .i64 a.th, .int .i64 a.kd, .int .i64 a.ad, .int .u64 a.old, .int .u64 a.nw, .int .u64 a.saw]
def Ax.val (a : Ax) : Value := .agg #[.int .i64 a.mv, .int .i64 a.th, .int .i64 a.kd, .int .i64 a.ad, .int .u64 a.old, .int .u64 a.nw, .int .u64 a.saw]
def axO (a : Ax) : Obj := .cells #[.int .i64 a.mv, .int .i64 a.th, .int .i64 a.kd, .int .i64 a.ad, .int .u64 a.old, .int .u64 a.nw, .int .u64 a.saw] 132 (0, 0)
def axs (l : List Ax) : List Value := l.flatMap Ax.row
theorem axs_length (l : List Ax) : (axs l).length = l.length * 7 := by
  induction l with
  | nil => rfl
  | cons x l ih => simp only [axs, List.flatMap_cons, List.length_append] at ih ⊢; simp [Ax.row] at ih ⊢; omega
theorem axs_get (l : List Ax) (i : Nat) (e : Ax) (h : l[i]? = some e) (j : Nat) (hj : j < 7) : (axs l)[i * 7 + j]? = e.row[j]? := by
  induction l generalizing i with
  | nil => simp at h
  | cons x l ih =>
    cases i with
    | zero => simp at h; subst h; simp only [axs, List.flatMap_cons, Nat.zero_mul, Nat.zero_add]; rw [List.getElem?_append_left (by simpa [Ax.row] using hj)]
    | succ i =>
      have := ih i (by simpa using h)
      simp only [axs, List.flatMap_cons] at this ⊢
      rw [List.getElem?_append_right (by simp [Ax.row]; omega), ← this]
      congr 1
      simp [Ax.row]; omega
structure AxAt (w : World) (b o : Nat) (a : Ax) : Prop where
  lt : b < w.heap.size
  c0 : w.cell? ⟨b, o, none⟩ = some (.int .i64 a.mv)
  c1 : w.cell? ⟨b, o + 1, none⟩ = some (.int .i64 a.th)
  c2 : w.cell? ⟨b, o + 2, none⟩ = some (.int .i64 a.kd)
  c3 : w.cell? ⟨b, o + 3, none⟩ = some (.int .i64 a.ad)
  c4 : w.cell? ⟨b, o + 4, none⟩ = some (.int .u64 a.old)
  c5 : w.cell? ⟨b, o + 5, none⟩ = some (.int .u64 a.nw)
  c6 : w.cell? ⟨b, o + 6, none⟩ = some (.int .u64 a.saw)
theorem ax_at {W : World} {T : Nat → Prop} {a : Option Addr} {cap : Nat} {es : List Ax} (h : Sl W T 7 (.slice a es.length cap) es.length (axs es)) {i : Nat} {e : Ax} (hc : es[i]? = some e) :
    ∃ b o, a = some ⟨b, o, none⟩ ∧ T b ∧ AxAt W b (o + i * 7) e := by
  have hi := (List.getElem?_eq_some_iff.1 hc).1
  obtain ⟨b, o, cap', hv, _, hT, hl, hr⟩ := h.there (by omega)
  cases hv
  have hg := fun j (hj : j < 7) => axs_get es i e hc j hj
  exact ⟨b, o, rfl, hT, hl, hr (i * 7 + 0) _ (hg 0 (by omega)), hr (i * 7 + 1) _ (hg 1 (by omega)), hr (i * 7 + 2) _ (hg 2 (by omega)), hr (i * 7 + 3) _ (hg 3 (by omega)), hr (i * 7 + 4) _ (hg 4 (by omega)), hr (i * 7 + 5) _ (hg 5 (by omega)), hr (i * 7 + 6) _ (hg 6 (by omega))⟩
theorem axO_cells {W : World} {b : Nat} {a : Ax} (h : W.heap[b]? = some (axO a)) : AxAt W b 0 a := by
  have hlt := (Array.getElem?_eq_some_iff.1 h).1
  unfold axO at h
  exact ⟨hlt, by simp [World.cell?, h], by simp [World.cell?, h], by simp [World.cell?, h], by simp [World.cell?, h], by simp [World.cell?, h], by simp [World.cell?, h], by simp [World.cell?, h]⟩
def Sx.row (a : Sx) : List Value := [.int .i64 a.mv, .int .i64 a.th, .int .i64 a.slot, .int .i64 a.fr, .int .i64 a.to]
def Sx.val (a : Sx) : Value := .agg #[.int .i64 a.mv, .int .i64 a.th, .int .i64 a.slot, .int .i64 a.fr, .int .i64 a.to]
def sxO (a : Sx) : Obj := .cells #[.int .i64 a.mv, .int .i64 a.th, .int .i64 a.slot, .int .i64 a.fr, .int .i64 a.to] 68 (0, 0)
def sxs (l : List Sx) : List Value := l.flatMap Sx.row
theorem sxs_length (l : List Sx) : (sxs l).length = l.length * 5 := by
  induction l with
  | nil => rfl
  | cons x l ih => simp only [sxs, List.flatMap_cons, List.length_append] at ih ⊢; simp [Sx.row] at ih ⊢; omega
theorem sxs_get (l : List Sx) (i : Nat) (e : Sx) (h : l[i]? = some e) (j : Nat) (hj : j < 5) : (sxs l)[i * 5 + j]? = e.row[j]? := by
  induction l generalizing i with
  | nil => simp at h
  | cons x l ih =>
    cases i with
    | zero => simp at h; subst h; simp only [sxs, List.flatMap_cons, Nat.zero_mul, Nat.zero_add]; rw [List.getElem?_append_left (by simpa [Sx.row] using hj)]
    | succ i =>
      have := ih i (by simpa using h)
      simp only [sxs, List.flatMap_cons] at this ⊢
      rw [List.getElem?_append_right (by simp [Sx.row]; omega), ← this]
      congr 1
      simp [Sx.row]; omega
structure SxAt (w : World) (b o : Nat) (a : Sx) : Prop where
  lt : b < w.heap.size
  c0 : w.cell? ⟨b, o, none⟩ = some (.int .i64 a.mv)
  c1 : w.cell? ⟨b, o + 1, none⟩ = some (.int .i64 a.th)
  c2 : w.cell? ⟨b, o + 2, none⟩ = some (.int .i64 a.slot)
  c3 : w.cell? ⟨b, o + 3, none⟩ = some (.int .i64 a.fr)
  c4 : w.cell? ⟨b, o + 4, none⟩ = some (.int .i64 a.to)
theorem sx_at {W : World} {T : Nat → Prop} {a : Option Addr} {cap : Nat} {es : List Sx} (h : Sl W T 5 (.slice a es.length cap) es.length (sxs es)) {i : Nat} {e : Sx} (hc : es[i]? = some e) :
    ∃ b o, a = some ⟨b, o, none⟩ ∧ T b ∧ SxAt W b (o + i * 5) e := by
  have hi := (List.getElem?_eq_some_iff.1 hc).1
  obtain ⟨b, o, cap', hv, _, hT, hl, hr⟩ := h.there (by omega)
  cases hv
  have hg := fun j (hj : j < 5) => sxs_get es i e hc j hj
  exact ⟨b, o, rfl, hT, hl, hr (i * 5 + 0) _ (hg 0 (by omega)), hr (i * 5 + 1) _ (hg 1 (by omega)), hr (i * 5 + 2) _ (hg 2 (by omega)), hr (i * 5 + 3) _ (hg 3 (by omega)), hr (i * 5 + 4) _ (hg 4 (by omega))⟩
theorem sxO_cells {W : World} {b : Nat} {a : Sx} (h : W.heap[b]? = some (sxO a)) : SxAt W b 0 a := by
  have hlt := (Array.getElem?_eq_some_iff.1 h).1
  unfold sxO at h
  exact ⟨hlt, by simp [World.cell?, h], by simp [World.cell?, h], by simp [World.cell?, h], by simp [World.cell?, h], by simp [World.cell?, h]⟩
/-- The nine cells of a call in a row. -/
structure CqAt (w : World) (b o : Nat) (a : Cq) : Prop where
  lt : b < w.heap.size
  c0 : w.cell? ⟨b, o, none⟩ = some (.int .i64 a.th)
  c1 : w.cell? ⟨b, o + 1, none⟩ = some (.int .i64 a.op)
  c2 : w.cell? ⟨b, o + 2, none⟩ = some (.int .i64 a.arg)
  c3 : w.cell? ⟨b, o + 3, none⟩ = some (.int .i64 a.data)
  c4 : w.cell? ⟨b, o + 4, none⟩ = some (.int .i64 a.beg)
  c5 : w.cell? ⟨b, o + 5, none⟩ = some (.int .i64 a.fin)
  c6 : w.cell? ⟨b, o + 6, none⟩ = some (.int .i64 a.pt)
  c7 : w.cell? ⟨b, o + 7, none⟩ = some (.int .i64 a.ak)
  c8 : w.cell? ⟨b, o + 8, none⟩ = some (.int .i64 a.av)
theorem cqx_at {W : World} {T : Nat → Prop} {a : Option Addr} {cap : Nat} {es : List Cq} (h : Sl W T 9 (.slice a es.length cap) es.length (cqs es)) {i : Nat} {e : Cq} (hc : es[i]? = some e) :
    ∃ b o, a = some ⟨b, o, none⟩ ∧ T b ∧ CqAt W b (o + i * 9) e := by
  have hi := (List.getElem?_eq_some_iff.1 hc).1
  obtain ⟨b, o, cap', hv, _, hT, hl, hr⟩ := h.there (by omega)
  cases hv
  have hg := fun j (hj : j < 9) => cqs_get es i e hc j hj
  exact ⟨b, o, rfl, hT, hl, hr (i * 9 + 0) _ (hg 0 (by omega)), hr (i * 9 + 1) _ (hg 1 (by omega)), hr (i * 9 + 2) _ (hg 2 (by omega)), hr (i * 9 + 3) _ (hg 3 (by omega)), hr (i * 9 + 4) _ (hg 4 (by omega)), hr (i * 9 + 5) _ (hg 5 (by omega)), hr (i * 9 + 6) _ (hg 6 (by omega)), hr (i * 9 + 7) _ (hg 7 (by omega)), hr (i * 9 + 8) _ (hg 8 (by omega))⟩
def ws (l : List Int) : List Value := l.map (Value.int .u64)
/-- A run's four slices, as they may be read. -/
structure RunAt (W : World) (T : Nat → Prop) (v0 v1 v2 v3 : Value) (cs : List Cq) (tr : List Ax) (sh : List Sx) (wl : List Int) : Prop where
  calls : Sl W T 9 v0 cs.length (cqs cs)
  trace : Sl W T 7 v1 tr.length (axs tr)
  shifts : Sl W T 5 v2 sh.length (sxs sh)
  words : Sl W T 1 v3 wl.length (ws wl)
section
variable {W W' : World} {T T' S : Nat → Prop} {v0 v1 v2 v3 : Value} {cs : List Cq} {tr : List Ax} {sh : List Sx} {wl : List Int}
theorem RunAt.fr (h : RunAt W T v0 v1 v2 v3 cs tr sh wl) (hf : Fr W W' S) (hd : ∀ k, T k → k < W.heap.size → ¬ S k) : RunAt W' T v0 v1 v2 v3 cs tr sh wl := ⟨h.calls.fr hf hd, h.trace.fr hf hd, h.shifts.fr hf hd, h.words.fr hf hd⟩
theorem RunAt.below (h : RunAt W T v0 v1 v2 v3 cs tr sh wl) (hB : Below W.heap.size W W') : RunAt W' T v0 v1 v2 v3 cs tr sh wl := ⟨h.calls.below hB, h.trace.below hB, h.shifts.below hB, h.words.below hB⟩
theorem RunAt.mono (h : RunAt W T v0 v1 v2 v3 cs tr sh wl) (hT : ∀ k, T k → T' k) : RunAt W T' v0 v1 v2 v3 cs tr sh wl := ⟨h.calls.mono hT, h.trace.mono hT, h.shifts.mono hT, h.words.mono hT⟩
end
def rnV (v0 v1 v2 v3 : Value) : Value := .agg #[v0, v1, v2, v3]
def rnO (v0 v1 v2 v3 : Value) : Obj := .cells #[v0, v1, v2, v3] 36 (0, 0)
theorem rnO_cells {W : World} {b : Nat} {v0 v1 v2 v3 : Value} (h : W.heap[b]? = some (rnO v0 v1 v2 v3)) : W.cell? ⟨b, 0, none⟩ = some v0 ∧ W.cell? ⟨b, 1, none⟩ = some v1 ∧ W.cell? ⟨b, 2, none⟩ = some v2 ∧ W.cell? ⟨b, 3, none⟩ = some v3 ∧ b < W.heap.size := by
  have hlt := (Array.getElem?_eq_some_iff.1 h).1
  unfold rnO at h
  exact ⟨by simp [World.cell?, h], by simp [World.cell?, h], by simp [World.cell?, h], by simp [World.cell?, h], hlt⟩
end Go.Proofs.YtpknggcgojkjgaaGreat.Cn
