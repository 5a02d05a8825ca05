import Derived.Test.YtmejblmeaipahaaDoorJ03
import Derived.Test.YtmejblmeaipahaaDoorJ07
/-
  TSO: what a thread sees, its newest store first.
-/
namespace Go.Proofs.YtmejblmeaipahaaDoor.Ts
open Go.RowKit Mr
set_option linter.unusedVariables false
set_option linter.unusedSimpArgs false
set_option maxRecDepth 100000
theorem seeP_none (v : Int) (b : List Pd) (ad : Int) (h : ∀ q ∈ b, q.ad ≠ ad) : seeP v b ad = v := by
  induction b generalizing v with
  | nil => rfl
  | cons p b ih =>
    have hp := h p (List.mem_cons_self ..)
    show seeP (if p.ad = ad then p.vl else v) b ad = v
    rw [if_neg hp]
    exact ih v (fun q hq => h q (List.mem_cons_of_mem _ hq))
theorem seeP_append (v : Int) (a b : List Pd) (ad : Int) : seeP v (a ++ b) ad = seeP (seeP v a ad) b ad := by simp [seeP]
theorem seeP_last (v : Int) (b : List Pd) (ad : Int) (k : Nat) (p : Pd) (hk : b[k]? = some p) (hp : p.ad = ad) (h : ∀ q ∈ b.drop (k + 1), q.ad ≠ ad) : seeP v b ad = p.vl := by
  have e : b = b.take (k + 1) ++ b.drop (k + 1) := (List.take_append_drop _ _).symm
  rw [e, seeP_append, seeP_none _ _ _ h, take_succ_of hk, seeP_snoc, if_pos hp]
/-- A thread's stores in the array. -/
def BfIn (cs : Array Value) (t : Nat) (b : List Pd) : Prop := cs[26 + t]? = some (.int .i64 (b.length : Int)) ∧ b.length ≤ 11 ∧ ∀ k p, b[k]? = some p → cs[30 + t * 22 + 2 * k]? = some (.int .i64 p.ad) ∧ cs[30 + t * 22 + 2 * k + 1]? = some (.int .i64 p.vl)
end Go.Proofs.YtmejblmeaipahaaDoor.Ts
/-
  TSO, pure: one turn of a state; a state's numbers in one array.
-/
namespace Go.Proofs.YtmejblmeaipahaaDoor.Ts
open Go.RowKit Mr
set_option linter.unusedVariables false
set_option linter.unusedSimpArgs false
def Rg.get (r : Rg) : Nat → Int
  | 0 => r.r0
  | 1 => r.r1
  | 2 => r.r2
  | 3 => r.r3
  | _ => 0
def Rg.put (r : Rg) (k : Nat) (v : Int) : Rg := match k with
  | 0 => { r with r0 := v }
  | 1 => { r with r1 := v }
  | 2 => { r with r2 := v }
  | 3 => { r with r3 := v }
  | _ => r
theorem Rg.get_put (r : Rg) (k j : Nat) (v : Int) (hk : k < 4) : (r.put k v).get j = if j = k then v else r.get j := by
  rcases k with _ | _ | _ | _ | k
  all_goals first | omega | skip
  all_goals (rcases j with _ | _ | _ | _ | j <;> simp [Rg.get, Rg.put])
def noRg : Rg := ⟨0, 0, 0, 0⟩
/-- A thread's part of a state, and the words. -/
structure Th where
  ws : List Int
  r : Rg
  pc : Int
  b : List Pd
def vw (s : Sv) (k : Nat) : Th := ⟨s.ws, s.rg.getD k noRg, s.pl.getD k 0, s.bf.getD k []⟩
def upd (s : Sv) (k : Nat) (x : Th) : Sv := ⟨x.ws, s.rg.set k x.r, s.pl.set k x.pc, s.bf.set k x.b⟩
def updO (s : Sv) (k : Nat) : Option Th → Sv
  | none => s
  | some x => upd s k x
/-- What an instruction does, but for the step to the next place. -/
def stp (o : Int) (i : In) (x : Th) : Option Th :=
  if i.kd = 1 then some { x with r := x.r.put i.rg.toNat (seeP (x.ws.getD i.ad.toNat 0) x.b i.ad) }
  else if i.kd = 2 then
    (let v := if i.fr = -1 then i.vl else x.r.get i.fr.toNat
     if o = 1 then some { x with ws := x.ws.set i.ad.toNat v } else some { x with b := x.b ++ [⟨i.ad, v⟩] })
  else if i.kd = 3 then
    (if 0 < x.b.length then none
     else if x.ws.getD i.ad.toNat 0 = i.ol then some { x with ws := x.ws.set i.ad.toNat i.vl, r := x.r.put i.rg.toNat 1 } else some { x with r := x.r.put i.rg.toNat 0 })
  else if i.kd = 4 then (if 0 < x.b.length then none else some x)
  else if i.kd = 5 then some { x with r := x.r.put i.rg.toNat i.vl }
  else if i.kd = 6 then some { x with r := x.r.put i.rg.toNat (IntKind.i64.wrap (x.r.get i.rg.toNat + i.vl)) }
  else (if x.r.get i.rg.toNat = i.vl then some { x with pc := x.pc + i.ct } else some x)
/-- One instruction. -/
def ins (o : Int) (c : List In) (x : Th) : Option Th :=
  match c[x.pc.toNat]? with
  | none => none
  | some i => (stp o i x).map fun y => { y with pc := min (y.pc + 1) (c.length : Int) }
/-- A store comes out. -/
def outI (o : Int) (b : List Pd) (ad : Int) : Option Nat := if o = 1 then none else b.findIdx? (fun p => decide (o = 2) || decide (p.ad = ad))
def out1 (o : Int) (x : Th) (ad : Int) : Option Th :=
  match outI o x.b ad with
  | none => none
  | some n => match x.b[n]? with
    | none => none
    | some p => some { x with ws := x.ws.set p.ad.toNat p.vl, b := x.b.eraseIdx n }
def act (l : Lt) (o : Int) (s : Sv) (t : Tn) : Option Th :=
  if 0 ≤ t.th ∧ t.th < (l.th.length : Int) then
    (if t.ou then out1 o (vw s t.th.toNat) t.ad else ins o (l.th.getD t.th.toNat []) (vw s t.th.toNat))
  else none
def trn (l : Lt) (o : Int) (s : Sv) (t : Tn) : Sv := updO s t.th.toNat (act l o s t)
def begS (l : Lt) : Sv := ⟨l.ws, List.replicate l.th.length noRg, List.replicate l.th.length 0, List.replicate l.th.length []⟩
/-- How turns go on. -/
def runS (l : Lt) (o : Int) (ts : List Tn) : Sv × Nat := ts.foldl (fun x t => (trn l o x.1 t, if (act l o x.1 t).isSome then x.2 + 1 else x.2)) (begS l, 0)
/-- A thread's part may be. -/
structure Tp (o : Int) (n nw : Nat) (x : Th) : Prop where
  wl : x.ws.length = nw
  p0 : 0 ≤ x.pc
  p1 : x.pc ≤ (n : Int)
  b1 : x.b.length ≤ 10
  ba : ∀ q ∈ x.b, 0 ≤ q.ad ∧ q.ad < (nw : Int)
  sc : o = 1 → x.b = []
/-- A state's shape. -/
structure Shp (l : Lt) (s : Sv) : Prop where
  w : s.ws.length = l.ws.length
  r : s.rg.length = l.th.length
  p : s.pl.length = l.th.length
  b : s.bf.length = l.th.length
theorem upd_vw {l : Lt} {s : Sv} (h : Shp l s) {k : Nat} (hk : k < l.th.length) : upd s k (vw s k) = s := by
  have e : ∀ {α : Type} (xs : List α) (d : α), k < xs.length → xs.set k (xs.getD k d) = xs := fun xs d hx => by
    rw [List.getD_eq_getElem?_getD, List.getElem?_eq_getElem hx, Option.getD_some]; exact List.set_getElem_self hx
  obtain ⟨a, b, c, d⟩ := s
  have h2 := h.r; have h3 := h.p; have h4 := h.b
  simp only [upd, vw]
  rw [e _ _ (by simp at h2; omega), e _ _ (by simp at h3; omega), e _ _ (by simp at h4; omega)]
theorem upd_shp {l : Lt} {s : Sv} (h : Shp l s) {k : Nat} {x : Th} (hx : x.ws.length = l.ws.length) : Shp l (upd s k x) :=
  ⟨hx, by simp [upd, h.r], by simp [upd, h.p], by simp [upd, h.b]⟩
theorem stp_ws {o : Int} {i : In} {x y : Th} (h : stp o i x = some y) : y.ws.length = x.ws.length := by
  unfold stp at h
  repeat' split at h
  all_goals first | (cases h; simp) | (cases h)
theorem ins_ws {o : Int} {c : List In} {x y : Th} (h : ins o c x = some y) : y.ws.length = x.ws.length := by
  unfold ins at h
  split at h
  · cases h
  · rename_i i hi
    cases hs : stp o i x with
    | none => rw [hs] at h; cases h
    | some z => rw [hs] at h; cases h; show z.ws.length = _; exact stp_ws hs
theorem out1_ws {o : Int} {x y : Th} {ad : Int} (h : out1 o x ad = some y) : y.ws.length = x.ws.length := by
  unfold out1 at h
  repeat' split at h
  all_goals first | (cases h; simp) | (cases h)
theorem act_ws {l : Lt} {o : Int} {s : Sv} {t : Tn} {y : Th} (h : act l o s t = some y) : y.ws.length = s.ws.length := by
  unfold act at h
  repeat' split at h
  · exact out1_ws h
  · exact ins_ws h
  · cases h
theorem trn_shp {l : Lt} {o : Int} {s : Sv} {t : Tn} (h : Shp l s) : Shp l (trn l o s t) := by
  unfold trn
  cases ha : act l o s t with
  | none => exact h
  | some x => exact upd_shp h ((act_ws ha).trans h.w)
/-- A run's state may be: a thread has no more stores waiting than instructions behind it. -/
structure Wg (l : Lt) (o : Int) (s : Sv) : Prop where
  sh : Shp l s
  tp : ∀ k c, l.th[k]? = some c → Tp o c.length l.ws.length (vw s k) ∧ ((vw s k).b.length : Int) ≤ (vw s k).pc
theorem vw_upd {l : Lt} {s : Sv} (h : Shp l s) {k : Nat} (hk : k < l.th.length) (x : Th) (j : Nat) : vw (upd s k x) j = if j = k then x else { vw s j with ws := x.ws } := by
  have e : ∀ {α : Type} (xs : List α) (d y : α), xs.length = l.th.length → (xs.set k y).getD j d = if j = k then y else xs.getD j d := fun xs d y hx => by
    by_cases hj : j = k
    · subst hj; simp [List.getD_eq_getElem?_getD, List.getElem?_set, hx, hk]
    · simp [List.getD_eq_getElem?_getD, List.getElem?_set, hj, Ne.symm hj]
  unfold vw upd
  dsimp only
  rw [e _ _ _ h.r, e _ _ _ h.p, e _ _ _ h.b]
  split <;> rfl
end Go.Proofs.YtmejblmeaipahaaDoor.Ts
