/-
  THE MACHINE with its own calls, without the model: what a move makes of it; and how it lies in the world.
-/
import Derived.Test.YtiobchadjcekcaaMacMove3
namespace Go.Proofs.Ytiobchadjcekcaa.Ma
open Go.RowKit Mr Me
/-- What a thread is about. -/
inductive PT where
  | idle
  | look (ad : Nat)
  | bump (ad : Nat) (x : Int) (ld : Bool)
def PT.tv : PT → Nat → Value
  | .idle, _ => .nilIface
  | .look _, bt => .iface 79 (.pointer (some ⟨bt, 0, none⟩))
  | .bump _ _ _, bt => .iface 83 (.pointer (some ⟨bt, 0, none⟩))
def PT.obj : PT → Option Obj
  | .idle => none
  | .look ad => some (lookO ad)
  | .bump ad x ld => some (bumpO ad x ld)
def PT.busy : PT → Bool
  | .idle => false
  | _ => true
def PT.ok : PT → Nat → Prop
  | .idle, _ => True
  | .look ad, n => ad < n
  | .bump ad _ _, n => ad < n
structure Pt where
  tk : PT
  fr : Bool
  call : Int
def Pt.th (t : Pt) (bt : Nat) : Th := ⟨t.tk.tv bt, t.fr, t.call, 0, 0⟩
structure Pm where
  pts : List Pt
  n : Nat
  cls : List Cl
  ws : List Int
  lg : List Acc
/-- The call c ends at now with the word x. -/
def setC (cls : List Cl) (c : Nat) (now : Int) (x : Int) : List Cl := match cls[c]? with
  | some cl => cls.set c { cl with pt := now, fin := now, ak := 2, av := wrap64 x }
  | none => cls
def up (x : Int) : Int := IntKind.u64.wrap (x + 1)
def Pm.step (P : Pm) (i : Nat) (t : Pt) (now : Int) : Pm × Bool := match t.tk with
  | .idle => (P, false)
  | .look ad => ({ P with lg := P.lg ++ [⟨now, i, 1, ad, 0, 0, P.ws[ad]?.getD 0⟩], cls := setC P.cls t.call.toNat now (P.ws[ad]?.getD 0), pts := P.pts.set i ⟨.idle, false, t.call⟩ }, true)
  | .bump ad _ false => ({ P with lg := P.lg ++ [⟨now, i, 1, ad, 0, 0, P.ws[ad]?.getD 0⟩], pts := P.pts.set i ⟨.bump ad (P.ws[ad]?.getD 0) true, false, t.call⟩ }, true)
  | .bump ad x true => if P.ws[ad]?.getD 0 = x then
      ({ P with ws := P.ws.set ad (up x), lg := P.lg ++ [⟨now, i, 3, ad, x, up x, x⟩], cls := setC P.cls t.call.toNat now x, pts := P.pts.set i ⟨.idle, false, t.call⟩ }, true)
    else ({ P with lg := P.lg ++ [⟨now, i, 3, ad, x, up x, P.ws[ad]?.getD 0⟩], pts := P.pts.set i ⟨.bump ad x false, false, t.call⟩ }, true)
def Pm.begins (P : Pm) (i : Nat) (op arg data now : Int) : Pm × Bool :=
  if (op = 1 ∨ op = 2) ∧ 0 ≤ arg ∧ arg < P.ws.length then
    ({ P with cls := P.cls ++ [⟨i, op, arg, data, now, -1, -1, 0, 0⟩], pts := P.pts.set i ⟨if op = 1 then .look arg.toNat else .bump arg.toNat 0 false, true, (P.cls.length : Int)⟩ }, true)
  else (P, false)
def Pm.count (P : Pm) : Pm := { P with n := P.n + 1 }
def Pm.move (P : Pm) (th op arg data : Int) : Pm × Bool :=
  if 65536 ≤ P.n then (P, false)
  else if 0 ≤ th ∧ th < P.pts.length then
    match P.pts[th.toNat]? with
    | none => (P.count, false)
    | some t => if op = 0 then P.count.step th.toNat t P.n else if t.tk.busy = true then (P.count, false) else P.count.begins th.toNat op arg data P.n
  else (P.count, false)

def thsOf (pts : List Pt) (bt : Nat → Nat) : List Th := pts.mapIdx (fun i t => t.th (bt i))
theorem thsOf_get (pts : List Pt) (bt : Nat → Nat) (i : Nat) : (thsOf pts bt)[i]? = (pts[i]?).map (fun t => t.th (bt i)) := by simp [thsOf]
theorem thsOf_length (pts : List Pt) (bt : Nat → Nat) : (thsOf pts bt).length = pts.length := by simp [thsOf]
theorem thsOf_set (pts : List Pt) (bt : Nat → Nat) (i : Nat) (t' : Pt) (b : Nat) : (thsOf pts bt).set i (t'.th b) = thsOf (pts.set i t') (fun k => if k = i then b else bt k) := by
  apply List.ext_getElem?
  intro j
  rw [List.getElem?_set, thsOf_get, thsOf_get, List.getElem?_set, thsOf_length]
  by_cases hj : i = j
  · subst hj
    simp only [if_true]
    split <;> simp
  · simp only [if_neg hj, if_neg (fun e : j = i => hj e.symm)]
/-- The tasks' objects. -/
def Xof (pts : List Pt) (bt : Nat → Nat) : Nat → Obj → Prop := fun k o => ∃ i t, pts[i]? = some t ∧ k = bt i ∧ t.tk.obj = some o
def Inj (pts : List Pt) (bt : Nat → Nat) : Prop := ∀ i j t u, pts[i]? = some t → pts[j]? = some u → t.tk.busy = true → u.tk.busy = true → bt i = bt j → i = j
structure Wf (P : Pm) : Prop where
  n : P.n ≤ 65536
  lg : P.lg.length ≤ P.n
  cls : P.cls.length ≤ P.n
  th : ∀ (i : Nat) (t : Pt), P.pts[i]? = some t → t.tk.ok P.ws.length ∧ (t.tk.busy = true → ∃ c : Nat, t.call = c ∧ c < P.cls.length)
def R (W : World) (U K : Nat → Prop) (q : Ph) (km s1 a1 s2 a2 : Nat) (P : Pm) : Prop :=
  ∃ S vl va vc mv ah bt, Mch W U S { q with vc := vc } vl va ⟨thsOf P.pts bt, P.n, P.cls, [], P.ws, mv, P.lg, ah⟩ (Xof P.pts bt) ∧ Inj P.pts bt ∧ ah.length ≤ P.lg.length ∧ Kt W K km P.ws.length s1 a1 s2 a2 ∧ (∀ k, K k → ¬ U k ∧ k < W.heap.size) ∧ Wf P ∧ q.vk = .map (some km)
theorem setC_length (cls : List Cl) (c : Nat) (now x : Int) : (setC cls c now x).length = cls.length := by unfold setC; split <;> simp
theorem obj_busy (t : PT) (o : Obj) (h : t.obj = some o) : t.busy = true := by cases t <;> first | rfl | cases h
theorem Wf.count {P : Pm} (h : Wf P) (hn : P.n < 65536) : Wf P.count := ⟨hn, Nat.le_succ_of_le h.lg, Nat.le_succ_of_le h.cls, h.th⟩
end Go.Proofs.Ytiobchadjcekcaa.Ma
