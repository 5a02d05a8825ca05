import Derived.Test.YtkimmfdicohoiaaGreatJ30
import Derived.Test.YtkimmfdicohoiaaGreatJ21
/-
  THE MACHINE WITH AN ARENA as it lies in the world; a step of a busy thread.
-/
namespace Go.Proofs.YtkimmfdicohoiaaGreat.Ar
open Go.RowKit Mr Me Ma Wc Wm
def tkB (ba i : Nat) (k : Pk) : Array Value := #[.pointer (some ⟨ba, 0, none⟩), .int .i64 (i : Int), .int .i64 k.sl, .int .i64 k.nx, .int .u64 k.hd, .int .u64 k.bh, .bool k.tk]
def gvB (ba i : Nat) (k : Pk) (dn : Int) : Array Value := #[.pointer (some ⟨ba, 0, none⟩), .int .i64 (i : Int), .int .i64 k.sl, .int .i64 k.nx, .int .u64 k.hd, .int .i64 dn]
/-- A thread's task, as the machine holds it. -/
def tkV (bc bt : Nat) : Option (Kd × Pk) → Value
  | none => .nilIface
  | some (.take, _) => .iface 119 (.pointer (some ⟨bc, 0, none⟩))
  | some (.give, _) => .iface 74 (.pointer (some ⟨bt, 0, none⟩))
  | some (.flush, _) => .iface 76 (.pointer (some ⟨bt, 0, none⟩))
def At.th (t : At) (bc bt : Nat) : Th := ⟨tkV bc bt t.tk, t.fr, t.call, 0, 0⟩
def thsA (pts : List At) (bc bt : Nat → Nat) : List Th := pts.mapIdx (fun i t => t.th (bc i) (bt i))
theorem thsA_get (pts : List At) (bc bt : Nat → Nat) (i : Nat) : (thsA pts bc bt)[i]? = (pts[i]?).map (fun t => t.th (bc i) (bt i)) := by simp [thsA]
theorem thsA_length (pts : List At) (bc bt : Nat → Nat) : (thsA pts bc bt).length = pts.length := by simp [thsA]
theorem thsA_put (pts : List At) (bc bt : Nat → Nat) (i : Nat) (t' : At) : (thsA pts bc bt).set i (t'.th (bc i) (bt i)) = thsA (pts.set i t') bc bt := by
  apply List.ext_getElem?
  intro j
  rw [List.getElem?_set, thsA_get, thsA_get, List.getElem?_set, thsA_length]
  by_cases hj : i = j
  · subst hj
    simp only [if_true]
    split <;> simp
  · simp only [if_neg hj]
/-- The task's objects. -/
def Tob (W : World) (T : Nat → Prop) (ba i bc bt : Nat) : Option (Kd × Pk) → Prop
  | none => True
  | some (.take, k) => T bc ∧ T bt ∧ bc ≠ bt ∧ W.heap[bc]? = some (.cells #[.pointer (some ⟨bt, 0, none⟩)] 121 (0, 0)) ∧ W.heap[bt]? = some (.cells (tkB ba i k) 150 (0, 0))
  | some (.give, k) => T bt ∧ W.heap[bt]? = some (.cells (gvB ba i k 0) 154 (0, 0))
  | some (.flush, k) => T bt ∧ W.heap[bt]? = some (.cells (gvB ba i k 4) 155 (0, 0))
/-- Which blocks are a task's. -/
def own (bc bt : Nat) : Option (Kd × Pk) → Nat → Prop
  | none, _ => False
  | some (.take, _), k => k = bc ∨ k = bt
  | some _, k => k = bt
/-- The arena's kit: K its blocks. -/
structure Ktr (W : World) (K : Nat → Prop) (km ca ba : Nat) : Prop where
  m : W.heap[km]? = some (.map #[⟨.int .i64 10, .func (.func 49) #[] #[.pointer (some ⟨ca, 0, none⟩)], 0⟩, ⟨.int .i64 11, .func (.func 50) #[] #[.pointer (some ⟨ca, 0, none⟩)], 1⟩, ⟨.int .i64 12, .func (.func 52) #[] #[.pointer (some ⟨ca, 0, none⟩)], 2⟩] 3)
  c : W.cell? ⟨ca, 0, none⟩ = some (.pointer (some ⟨ba, 0, none⟩))
  k0 : K km ∧ K ca
/-- Where everything of it lies. -/
structure Wh where
  S : Nat → Prop
  vl : Value
  va : Value
  vc : Value
  vs : Value
  mv : Int
  ah : List Int
  T : Nat → Prop
  vsl : List Value
  bc : Nat → Nat
  bt : Nat → Nat
structure Fx where
  q : Ph
  km : Nat
  ca : Nat
  ba : Nat
  gs : Nat
  cs : Nat
  c : Cf
  vca : Value
def Fx.at (f : Fx) (h : Wh) : Ph := { f.q with vc := h.vc, vs := h.vs }
def Wh.ss (h : Wh) (P : Pa) : Ss := ⟨thsA P.pts h.bc h.bt, P.n, P.cls, P.shs, P.ws, h.mv, P.lg, h.ah⟩
structure RA (W : World) (U K : Nat → Prop) (f : Fx) (h : Wh) (P : Pa) : Prop where
  mch : Mch W U h.S (f.at h) h.vl h.va (h.ss P) (snap W h.T)
  tl : ∀ k, h.T k → k < W.heap.size
  ar : Ar W h.T f.ba f.gs f.cs f.c f.vca h.vsl P.A
  tob : ∀ (i : Nat) (t : At), P.pts[i]? = some t → Tob W h.T f.ba i (h.bc i) (h.bt i) t.tk
  dj : ∀ (i j : Nat) (t u : At) (k : Nat), P.pts[i]? = some t → P.pts[j]? = some u → own (h.bc i) (h.bt i) t.tk k → own (h.bc j) (h.bt j) u.tk k → i = j
  ah : h.ah.length ≤ P.lg.length
  kt : Ktr W K f.km f.ca f.ba
  ku : ∀ k, K k → ¬ U k ∧ k < W.heap.size
  inv : Inv P P.n
  m : f.c.m = P.m
  ck : f.c.a4 = P.K
  K : P.K ≤ 64
  vk : f.q.vk = .map (some f.km)
def OutA (W : World) (U K : Nat → Prop) (f : Fx) (P' : Pa) (w : World) : Prop :=
  ∃ U' h', RA w U' K f h' P' ∧ (∀ k, U k → U' k) ∧ (∀ k, U' k → U k ∨ W.heap.size ≤ k) ∧ Fr W w U
section
variable {W : World} {U K : Nat → Prop} {f : Fx} {h : Wh} {P : Pa}
theorem Ktr.kept {w : World} {km ca ba : Nat} (h : Ktr W K km ca ba) (hk : ∀ k, K k → w.heap[k]? = W.heap[k]?) : Ktr w K km ca ba :=
  ⟨(hk _ h.k0.1).trans h.m, (World.cell?_of_block (hk _ h.k0.2)).trans h.c, h.k0⟩
theorem Tob.kept {w : World} {T T' : Nat → Prop} {ba i bc bt : Nat} {tk : Option (Kd × Pk)} (h : Tob W T ba i bc bt tk) (hk : ∀ k, T k → own bc bt tk k → w.heap[k]? = W.heap[k]?) (hT : ∀ k, T k → T' k) : Tob w T' ba i bc bt tk := by
  rcases tk with _ | ⟨kd, k⟩
  · trivial
  · cases kd with
    | take =>
      obtain ⟨h1, h2, h3, h4, h5⟩ := h
      exact ⟨hT _ h1, hT _ h2, h3, (hk bc h1 (.inl rfl)).trans h4, (hk bt h2 (.inr rfl)).trans h5⟩
    | give =>
      obtain ⟨h1, h2⟩ := h
      exact ⟨hT _ h1, (hk bt h1 rfl).trans h2⟩
    | flush =>
      obtain ⟨h1, h2⟩ := h
      exact ⟨hT _ h1, (hk bt h1 rfl).trans h2⟩
/-- Every block of a task is an object of its own type. -/
theorem Tob.obj {T : Nat → Prop} {ba i bc bt : Nat} {tk : Option (Kd × Pk)} (h : Tob W T ba i bc bt tk) {k : Nat} (hk : own bc bt tk k) : T k ∧ ∃ xs t, W.heap[k]? = some (.cells xs t (0, 0)) ∧ Oth t := by
  rcases tk with _ | ⟨kd, kk⟩
  · exact hk.elim
  · cases kd with
    | take =>
      obtain ⟨h1, h2, h3, h4, h5⟩ := h
      rcases hk with rfl | rfl
      · exact ⟨h1, _, _, h4, by unfold Oth; decide⟩
      · exact ⟨h2, _, _, h5, by unfold Oth; decide⟩
    | give =>
      obtain ⟨h1, h2⟩ := h
      obtain rfl : k = bt := hk
      exact ⟨h1, _, _, h2, by unfold Oth; decide⟩
    | flush =>
      obtain ⟨h1, h2⟩ := h
      obtain rfl : k = bt := hk
      exact ⟨h1, _, _, h2, by unfold Oth; decide⟩
end
end Go.Proofs.YtkimmfdicohoiaaGreat.Ar
/-
  THE MACHINE WITH AN ARENA: a step of a busy thread.
-/
namespace Go.Proofs.YtkimmfdicohoiaaGreat.Ar
open Go.RowKit Mr Me Ma Wc Wm
/-- What a task's step leaves, but for the machine. -/
def Zt (W : World) (f : Fx) (h : Wh) (i : Nat) (ty : TypeId) (xs : Array Value) (P1 : Pa) : Ss → Value → (Nat → Obj → Prop) → World → Prop := fun s' _ X' w1 =>
  ∃ T' vs2, X' = snap w1 T' ∧ (∀ k, T' k → k < w1.heap.size) ∧ (∀ k, h.T k → T' k) ∧ (∀ k, T' k → h.T k ∨ W.heap.size ≤ k) ∧ Ar w1 T' f.ba f.gs f.cs f.c f.vca vs2 P1.A ∧ w1.heap[h.bt i]? = some (.cells xs ty (0, 0)) ∧ (∀ (j : Nat) (ys : Array Value) (t : TypeId), h.T j → j ≠ h.bt i → Oth t → W.heap[j]? = some (.cells ys t (0, 0)) → w1.heap[j]? = some (.cells ys t (0, 0))) ∧ St P1 s'
/-- The thread's new task is its elder one, gone on, or none. -/
def Nt (f : Fx) (i : Nat) (ty : TypeId) (xs : Array Value) (t t' : At) : Prop :=
  t'.tk = none ∨ (∃ k k', t.tk = some (.take, k) ∧ t'.tk = some (.take, k') ∧ ty = 150 ∧ xs = tkB f.ba i k') ∨ (∃ k k', t.tk = some (.give, k) ∧ t'.tk = some (.give, k') ∧ ty = 154 ∧ xs = gvB f.ba i k' 0) ∨ (∃ k k', t.tk = some (.flush, k) ∧ t'.tk = some (.flush, k') ∧ ty = 155 ∧ xs = gvB f.ba i k' 4)
section
variable {W : World} {U K : Nat → Prop} {f : Fx} {h : Wh} {P P1 P2 : Pa} {i : Nat} {t t' : At} {ty : TypeId} {xs : Array Value}
theorem pts_set {pts : List At} {i j : Nat} {t u : At} (h : (pts.set i t)[j]? = some u) : (j = i ∧ u = t) ∨ (j ≠ i ∧ pts[j]? = some u) := by
  rw [List.getElem?_set] at h
  by_cases e : i = j
  · rw [if_pos e] at h
    split at h
    · simp at h; exact .inl ⟨e.symm, h.symm⟩
    · cases h
  · rw [if_neg e] at h
    exact .inr ⟨fun e' => e e'.symm, h⟩
theorem Nt.own (hn : Nt f i ty xs t t') {k : Nat} (hk : own (h.bc i) (h.bt i) t'.tk k) : own (h.bc i) (h.bt i) t.tk k := by
  rcases hn with e | ⟨_, _, e1, e2, _⟩ | ⟨_, _, e1, e2, _⟩ | ⟨_, _, e1, e2, _⟩
  · rw [e] at hk; exact hk.elim
  · rw [e2] at hk; rw [e1]; exact hk
  · rw [e2] at hk; rw [e1]; exact hk
  · rw [e2] at hk; rw [e1]; exact hk
theorem OutA.of {s' s2 : Ss} {vs' : Value} {X' : Nat → Obj → Prop} {w1 w2 : World} (hR : RA W U K f h P) (ht : P.pts[i]? = some t) (hbt : own (h.bc i) (h.bt i) t.tk (h.bt i)) (hg : Goes W U { f.at h with vs := vs' } s2 X' w2) (hz : Zt W f h i ty xs P1 s' vs' X' w1) (e1 : s2.ths = thsA P2.pts h.bc h.bt) (e2 : s2.n = P2.n) (e3 : s2.cls = P2.cls) (e4 : s2.shs = P2.shs) (e5 : s2.ws = P2.ws) (e6 : s2.lg = P2.lg) (e7 : s2.ah.length ≤ P2.lg.length) (hp : P2.pts = P.pts.set i t') (hA : P2.A = P1.A) (hn : Nt f i ty xs t t') (hm : P2.m = P.m) (hK : P2.K = P.K) (hI : Inv P2 P2.n) :
    OutA W U K f P2 w2 := by
  obtain ⟨T', vs2, z1, z2, z3, z4, z5, z6, z7, z8⟩ := hz
  obtain ⟨U', S, vl, va, ⟨hx, hmm⟩, g1, g2, g3⟩ := hg
  have sm : ∀ k, T' k → w2.heap[k]? = w1.heap[k]? ∧ k < w2.heap.size := fun k hk => by
    have q1 := Array.getElem?_eq_getElem (z2 k hk)
    have q2 := (hx k _ (by rw [z1]; exact ⟨hk, q1⟩)).1
    exact ⟨q2.trans q1.symm, (Array.getElem?_eq_some_iff.1 q2).1⟩
  have kk : ∀ k, K k → w2.heap[k]? = W.heap[k]? := fun k hk => g3.block k (hR.ku k hk).2 (hR.ku k hk).1
  have hss : s2 = ({ S := S, vl := vl, va := va, vc := h.vc, vs := vs', mv := s2.mv, ah := s2.ah, T := T', vsl := vs2, bc := h.bc, bt := h.bt } : Wh).ss P2 := by
    obtain ⟨a1, a2, a3, a4, a5, a6, a7, a8⟩ := s2
    simp only at e1 e2 e3 e4 e5 e6
    subst e1 e2 e3 e4 e5 e6
    rfl
  refine ⟨U', { S := S, vl := vl, va := va, vc := h.vc, vs := vs', mv := s2.mv, ah := s2.ah, T := T', vsl := vs2, bc := h.bc, bt := h.bt }, ⟨?_, fun k hk => (sm k hk).2, ?_, ?_, ?_, e7, hR.kt.kept kk, ?_, hI, by rw [hm]; exact hR.m, by rw [hK]; exact hR.ck, by rw [hK]; exact hR.K, hR.vk⟩, g1, g2, g3⟩
  · rw [← hss]
    refine ⟨fun k o ho => hx k o ?_, hmm⟩
    rw [z1]
    exact ⟨ho.1, ((sm k ho.1).1).symm.trans ho.2⟩
  · rw [hA]
    exact z5.kept (fun k hk => (sm k hk).1) (fun _ h => h)
  · intro j u hj
    rw [hp] at hj
    rcases pts_set hj with ⟨rfl, rfl⟩ | ⟨hj1, hj2⟩
    · have old := hR.tob j t ht
      rcases hn with e | ⟨k, k', a1, a2, a3, a4⟩ | ⟨k, k', a1, a2, a3, a4⟩ | ⟨k, k', a1, a2, a3, a4⟩
      · rw [e]; trivial
      · rw [a1] at old
        obtain ⟨o1, o2, o3, o4, o5⟩ := old
        rw [a2]
        refine ⟨z3 _ o1, z3 _ o2, o3, (sm _ (z3 _ o1)).1.trans (z7 _ _ _ o1 o3 (by unfold Oth; decide) o4), (sm _ (z3 _ o2)).1.trans ?_⟩
        rw [← a4, ← a3]; exact z6
      · rw [a1] at old
        obtain ⟨o1, o2⟩ := old
        rw [a2]
        refine ⟨z3 _ o1, (sm _ (z3 _ o1)).1.trans ?_⟩
        rw [← a4, ← a3]; exact z6
      · rw [a1] at old
        obtain ⟨o1, o2⟩ := old
        rw [a2]
        refine ⟨z3 _ o1, (sm _ (z3 _ o1)).1.trans ?_⟩
        rw [← a4, ← a3]; exact z6
    · have old := hR.tob j u hj2
      refine old.kept (fun k hk ho => ?_) z3
      obtain ⟨_, ys, tt, q1, q2⟩ := old.obj ho
      have hne : k ≠ h.bt i := fun e => hj1 (hR.dj j i u t k hj2 ht ho (e ▸ hbt))
      rw [(sm k (z3 k hk)).1, z7 k ys tt hk hne q2 q1, q1]
  · intro a b u v k ha hb hu hv
    rw [hp] at ha hb
    rcases pts_set ha with ⟨rfl, rfl⟩ | ⟨ha1, ha2⟩
    · rcases pts_set hb with ⟨rfl, rfl⟩ | ⟨hb1, hb2⟩
      · rfl
      · exact hR.dj a b t v k ht hb2 (hn.own hu) hv
    · rcases pts_set hb with ⟨rfl, rfl⟩ | ⟨hb1, hb2⟩
      · exact hR.dj a b u t k ha2 ht hu (hn.own hv)
      · exact hR.dj a b u v k ha2 hb2 hu hv
  · intro k hk
    refine ⟨fun hu => ?_, Nat.lt_of_lt_of_le (hR.ku k hk).2 g3.size⟩
    rcases g2 k hu with hu | hu
    · exact (hR.ku k hk).1 hu
    · have := (hR.ku k hk).2; omega
end
end Go.Proofs.YtkimmfdicohoiaaGreat.Ar
/-
  THE MACHINE WITH AN ARENA: Machine.step of a busy thread.
-/
namespace Go.Proofs.YtkimmfdicohoiaaGreat.Ar
open Go.RowKit Mr Me Ma Wc Wm
section
variable {W : World} {U K : Nat → Prop} {f : Fx} {h : Wh} {P : Pa} {i : Nat} {t : At}
/-- What a task tells by itself. -/
def tolds (kd : Kd) (k : Pk) : Int × Int := match kd with
  | .take => Pa.answer .take k
  | _ => (0, 0)
theorem endA_tolds (kd : Kd) (k : Pk) : endA (tolds kd k).1 (tolds kd k).2 = Pa.answer kd k := by
  cases kd with
  | take =>
    cases hk : k.tk <;> simp [endA, tolds, Pa.answer, hk]
  | give => rfl
  | flush => rfl
def X0of (f : Fx) (h : Wh) : Nat → Prop := fun k => h.T k ∨ k = f.q.bb ∨ h.vs.ownBlock = some k
theorem RA.x0 (hR : RA W U K f h P) : ∀ k, X0of f h k → U k := fun k hk => by
  rcases hk with hk | rfl | hk
  · exact (hR.mch.1 k _ ⟨hk, Array.getElem?_eq_getElem (hR.tl k hk)⟩).2.1
  · exact hR.mch.2.ubb.1
  · exact (hR.mch.2.shf.lt k hk).1.1
/-- Where thread i's run takes place. -/
def plc (W W1 : World) (U : Nat → Prop) (f : Fx) (h : Wh) (i : Nat) (now : Int) (ty : TypeId) : Pl :=
  ⟨W, U, h.S, X0of f h, (f.at h).at W.heap.size, i, now, W1, h.T, f.ba, f.gs, f.cs, f.c, f.vca, h.bt i, ty⟩
theorem RA.rn (hR : RA W U K f h P) {W1 : World} {ths' : List Th} {now : Int} {ty : TypeId} {xs : Array Value} (hD : D W U h.S (X0of f h) ((f.at h).at W.heap.size) i now (snap W h.T) false { h.ss P with ths := ths' } W1) (hb : W.heap[h.bt i]? = some (.cells xs ty (0, 0))) (hbT : h.T (h.bt i)) (hty : Oth ty) :
    Rn (plc W W1 U f h i now ty) false { h.ss P with ths := ths' } P.A xs W1 ∧ Sm W W1 h.T := by
  obtain ⟨e1, e2⟩ := E.back (p := (f.at h).at W.heap.size) (vs := h.vs) (T := h.T) ⟨.inr (.inl rfl), fun k hk => .inl (.inr (.inr hk))⟩ (fun k hk => .inl (.inl hk)) hR.tl hD
  exact ⟨⟨h.T, h.vsl, fun _ h => h, fun _ h => .inl h, e1, hR.ar.kept e2 (fun _ h => h), (e2 _ hbT).trans hb, hbT, hty, fun j ys t hj hne ht hw => hw⟩, e2⟩
/-- What a run leaves is what the step's laws ask. -/
theorem zt_of {W1 w : World} {now : Int} {ty : TypeId} {xs : Array Value} {P1 : Pa} {sp' : Bool} {s' : Ss} {ths' : List Th} {cls' : List Cl} (hsm : Sm W W1 h.T) (hW1 : W.heap.size ≤ W1.heap.size) (hr : Rn (plc W W1 U f h i now ty) sp' s' P1.A xs w) (hs : St P1 s') (e1 : s'.ths = ths') (e2 : s'.cls = cls') :
    ∃ s' vs' X' sp', D W U h.S (X0of f h) (({ f.at h with vs := vs' } : Ph).at W.heap.size) i now X' sp' s' w ∧ s'.ths = ths' ∧ s'.cls = cls' ∧ Zt W f h i ty xs P1 s' vs' X' w := by
  obtain ⟨T', vs2, h1, h2, ⟨vs', q1, q2, q3, q4⟩, h4, h5, h6, h7, h8⟩ := hr
  refine ⟨s', vs', snap w T', sp', q4, e1, e2, T', vs2, rfl, q3, h1, fun k hk => ?_, h4, h5, fun j ys tt hj hne ht hw => h8 j ys tt hj hne ht ((hsm j hj).trans hw), hs⟩
  rcases h2 k hk with h2 | h2
  · exact .inl h2
  · have h2' : W1.heap.size ≤ k := h2
    exact .inr (by omega)
set_option maxHeartbeats 1000000 in
theorem step_arena (hR : RA W U K f h P) {b : Nat} (hI : Inv P b) (hb : b < 65536) (hn : P.n = b + 1) (ht : P.pts[i]? = some t) (hbusy : t.tk.isSome = true) (now : Int) :
    Calls Tryz.prog 58 #[.pointer (some ⟨f.q.b, 0, none⟩), .int .i64 (i : Int), .int .i64 now] W fun e w' => e = .returned (.bool true) ∧ OutA W U K f (P.step i t now).1 w' := by
  have hi : i < P.pts.length := (List.getElem?_eq_some_iff.1 ht).1
  obtain ⟨tk, fr, call⟩ := t
  rcases tk with _ | ⟨kd, k⟩
  · cases hbusy
  obtain ⟨c, hcall, hcl⟩ := hI.cl i _ ht rfl
  simp only at hcall
  subst hcall
  obtain ⟨cl, hclg⟩ : ∃ cl, P.cls[c]? = some cl := ⟨_, List.getElem?_eq_getElem hcl⟩
  have hT := hI.th i _ kd k ht rfl
  simp only at hT
  have hths : (h.ss P).ths[i]? = some (At.th ⟨some (kd, k), fr, c⟩ (h.bc i) (h.bt i)) := by
    show (thsA P.pts h.bc h.bt)[i]? = _
    rw [thsA_get, ht]; rfl
  have hgetF : ∀ x : Th, ((thsA P.pts h.bc h.bt).set i x)[i]? = some x := fun x => by simp [thsA_length, hi]
  have hto := hR.tob i _ ht
  simp only at hto
  have hcore := work_core (now := now) hI hb hi hT
  obtain ⟨hres, hnext⟩ := hcore
  have hstep := hI.step hb ht now
  have hcq : ∀ W1 ty, Cq (plc W W1 U f h i now ty) P := fun W1 ty => ⟨hR.m, hR.ck⟩
  have hst0 : ∀ x : Th, St P { h.ss P with ths := (h.ss P).ths.set i x } := fun x => ⟨rfl, rfl, rfl, rfl, rfl, hR.ah⟩
  -- the block, its type, its cells
  obtain ⟨ty, xs0, cellF, hblk, hbT, hoty, hval, hown, HWK⟩ : ∃ (ty : TypeId) (xs0 : Array Value) (cellF : Pk → Array Value), W.heap[h.bt i]? = some (.cells xs0 ty (0, 0)) ∧ h.T (h.bt i) ∧ Oth ty ∧ (∃ ty' v', tkV (h.bc i) (h.bt i) (some (kd, k)) = .iface ty' v') ∧ own (h.bc i) (h.bt i) (some (kd, k)) (h.bt i) ∧
      (∀ (W1 : World), D W U h.S (X0of f h) ((f.at h).at W.heap.size) i now (snap W h.T) false { h.ss P with ths := (h.ss P).ths.set i (At.th ⟨some (kd, k), false, c⟩ (h.bc i) (h.bt i)) } W1 → Calls Tryz.prog 86 #[tkV (h.bc i) (h.bt i) (some (kd, k)), .bool fr, .pointer (some ⟨W.heap.size + 1, 0, none⟩)] W1 fun e w' => e = .returned (.bool (P.work i now fr kd k).2.2) ∧ ∃ s' vs' X' sp', D W U h.S (X0of f h) (({ f.at h with vs := vs' } : Ph).at W.heap.size) i now X' sp' s' w' ∧ s'.ths = (if (P.work i now fr kd k).2.2 = true then ((h.ss P).ths.set i { (At.th ⟨some (kd, k), false, c⟩ (h.bc i) (h.bt i)) with ak := (tolds kd (P.work i now fr kd k).2.1).1, av := (tolds kd (P.work i now fr kd k).2.1).2 }) else (h.ss P).ths.set i (At.th ⟨some (kd, k), false, c⟩ (h.bc i) (h.bt i))) ∧ s'.cls = P.cls ∧ Zt W f h i ty (cellF (P.work i now fr kd k).2.1) (P.work i now fr kd k).1 s' vs' X' w') ∧
      (∀ k', Nt f i ty (cellF k') ⟨some (kd, k), fr, c⟩ ⟨some (kd, k'), false, c⟩) := by
    cases kd with
    | take =>
      obtain ⟨o1, o2, o3, o4, o5⟩ := hto
      refine ⟨150, tkB f.ba i k, tkB f.ba i, o5, o2, by unfold Oth; decide, ⟨_, _, rfl⟩, .inr rfl, fun W1 hD => ?_, fun k' => .inr (.inl ⟨k, k', rfl, rfl, rfl, rfl⟩)⟩
      obtain ⟨rn, sm⟩ := hR.rn hD o5 o2 (by unfold Oth; decide)
      refine (work_take (q := plc W W1 U f h i now 150) (bc := h.bc i) rn rfl o1 o3 ((sm _ o1).trans o4) (hst0 _) hI (hcq _ _) hi hT _ (hgetF _)).mono ?_
      rintro e w' ⟨rfl, sp', s', r1, r2, r3⟩
      refine ⟨rfl, zt_of sm hD.size r1 r2 (r3.trans ?_) (r2.cls.trans hres.cls)⟩
      by_cases he : (P.work i now fr .take k).2.2 = true
      · simp only [told, plc, he, if_true, List.set_set]
        rfl
      · simp only [told, plc, he]
        rfl
    | give =>
      obtain ⟨o1, o2⟩ := hto
      refine ⟨154, gvB f.ba i k 0, fun k' => gvB f.ba i k' 0, o2, o1, by unfold Oth; decide, ⟨_, _, rfl⟩, rfl, fun W1 hD => ?_, fun k' => .inr (.inr (.inl ⟨k, k', rfl, rfl, rfl, rfl⟩))⟩
      obtain ⟨rn, sm⟩ := hR.rn hD o2 o1 (by unfold Oth; decide)
      refine (work_give (q := plc W W1 U f h i now 154) rn rfl (hst0 _) hI (hcq _ _) hR.K hi hT).mono ?_
      rintro e w' ⟨rfl, sp', s', r1, r2, r3⟩
      refine ⟨rfl, zt_of sm hD.size r1 r2 (r3.trans ?_) (r2.cls.trans hres.cls)⟩
      split <;> rfl
    | flush =>
      obtain ⟨o1, o2⟩ := hto
      refine ⟨155, gvB f.ba i k 4, fun k' => gvB f.ba i k' 4, o2, o1, by unfold Oth; decide, ⟨_, _, rfl⟩, rfl, fun W1 hD => ?_, fun k' => .inr (.inr (.inr ⟨k, k', rfl, rfl, rfl, rfl⟩))⟩
      obtain ⟨rn, sm⟩ := hR.rn hD o2 o1 (by unfold Oth; decide)
      refine (work_flush (q := plc W W1 U f h i now 155) rn (hst0 _) hI (hcq _ _) hi hT).mono ?_
      rintro e w' ⟨rfl, sp', s', r1, r2, r3⟩
      refine ⟨rfl, zt_of sm hD.size r1 r2 (r3.trans ?_) (r2.cls.trans hres.cls)⟩
      split <;> rfl
  obtain ⟨HW, hnt⟩ := HWK
  obtain ⟨ty', v', hval⟩ := hval
  have hP2 : (P.step i ⟨some (kd, k), fr, c⟩ now).1.n = P.n := by
    simp only [Pa.step]
    split <;> exact hres.n
  have hinv : Inv (P.step i ⟨some (kd, k), fr, c⟩ now).1 (P.step i ⟨some (kd, k), fr, c⟩ now).1.n := by rw [hP2, hn]; exact hstep
  cases he : (P.work i now fr kd k).2.2 with
  | true =>
    simp only [he, if_true] at HW
    have e0 : (P.step i ⟨some (kd, k), fr, c⟩ now).1 = { (P.work i now fr kd k).1 with cls := Pa.setC (P.work i now fr kd k).1.cls c now (Pa.answer kd (P.work i now fr kd k).2.1).1 (Pa.answer kd (P.work i now fr kd k).2.1).2, pts := (P.work i now fr kd k).1.pts.set i ⟨none, false, c⟩ } := by
      simp only [Pa.step, he, if_true, Int.toNat_natCast]
    refine (step_off (q := f.at h) (X0 := X0of f h) hR.mch i _ hths now ty' v' hval hR.x0 HW _ (hgetF _) c rfl cl hclg).mono ?_
    rintro e w' ⟨rfl, s', vs', X', w1, hg, e1, e2, hz⟩
    obtain ⟨T', vs2, _, _, _, _, _, _, _, hst⟩ := id hz
    refine ⟨rfl, OutA.of (t' := ⟨none, false, c⟩) hR ht hown hg hz ?_ ?_ ?_ ?_ ?_ ?_ ?_ ?_ ?_ (.inl rfl) ?_ ?_ hinv⟩
    · rw [e0]
      simp only [e1, hres.pts, List.set_set]
      exact thsA_put P.pts h.bc h.bt i ⟨none, false, c⟩
    · rw [e0]; exact hst.n
    · rw [e0]
      have ha : ∀ a : Int × Int, a = Pa.answer kd (P.work i now fr kd k).2.1 → P.cls.set c { cl with fin := now, ak := a.1, av := a.2 } = Pa.setC (P.work i now fr kd k).1.cls c now (Pa.answer kd (P.work i now fr kd k).2.1).1 (Pa.answer kd (P.work i now fr kd k).2.1).2 := fun a ea => by
        rw [hres.cls, ea]
        simp [Pa.setC, hclg]
      simp only [e2]
      exact ha _ (endA_tolds kd _)
    · rw [e0]; exact hst.shs
    · rw [e0]; exact hst.ws
    · rw [e0]; exact hst.lg
    · rw [e0]; exact hst.ah
    · rw [e0]; simp only [hres.pts]
    · rw [e0]
    · rw [e0]; exact hres.m
    · rw [e0]; exact hres.K
  | false =>
    simp only [he, Bool.false_eq_true, if_false] at HW
    have e0 : (P.step i ⟨some (kd, k), fr, c⟩ now).1 = { (P.work i now fr kd k).1 with pts := (P.work i now fr kd k).1.pts.set i ⟨some (kd, (P.work i now fr kd k).2.1), false, c⟩ } := by
      simp only [Pa.step, he, Bool.false_eq_true, if_false]
    refine (step_on (q := f.at h) (X0 := X0of f h) hR.mch i _ hths now ty' v' hval hR.x0 HW).mono ?_
    rintro e w' ⟨rfl, s', vs', X', w1, hg, e1, e2, hz⟩
    obtain ⟨T', vs2, _, _, _, _, _, _, _, hst⟩ := id hz
    refine ⟨rfl, OutA.of (t' := ⟨some (kd, (P.work i now fr kd k).2.1), false, c⟩) hR ht hown hg hz ?_ ?_ ?_ ?_ ?_ ?_ ?_ ?_ ?_ (hnt _) ?_ ?_ hinv⟩
    · rw [e0]
      simp only [e1, hres.pts]
      refine Eq.trans ?_ (thsA_put P.pts h.bc h.bt i ⟨some (kd, (P.work i now fr kd k).2.1), false, c⟩)
      cases kd <;> rfl
    · rw [e0]; exact hst.n
    · rw [e0]; exact hst.cls
    · rw [e0]; exact hst.shs
    · rw [e0]; exact hst.ws
    · rw [e0]; exact hst.lg
    · rw [e0]; exact hst.ah
    · rw [e0]; simp only [hres.pts]
    · rw [e0]
    · rw [e0]; exact hres.m
    · rw [e0]; exact hres.K
end
end Go.Proofs.YtkimmfdicohoiaaGreat.Ar
