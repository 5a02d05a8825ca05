/-
  THE MACHINE's history, without the model: what a move makes of calls, words and log.
-/
import Derived.Test.YtiobchadjcekcaaMacPlay
namespace Go.Proofs.Ytiobchadjcekcaa.Ma
open Go.RowKit Mr Me
def PT.ad : PT → Nat
  | .idle => 0
  | .look ad => ad
  | .bump ad _ _ => ad
def PT.op : PT → Int
  | .idle => 0
  | .look _ => 1
  | .bump _ _ _ => 2
/-- A call as it may stand at the move n among m words. -/
structure Cok (cl : Cl) (m n : Nat) : Prop where
  arg0 : 0 ≤ cl.arg
  arg1 : cl.arg < m
  op : cl.op = 1 ∨ cl.op = 2
  b0 : 0 ≤ cl.beg
  b1 : cl.beg < n
  way : (cl.fin = -1 ∧ cl.pt = -1 ∧ cl.ak = 0 ∧ cl.av = 0) ∨ (cl.fin = cl.pt ∧ cl.beg < cl.pt ∧ cl.pt < n ∧ cl.ak = 2)
theorem Cok.mono {cl : Cl} {m n n' : Nat} (h : Cok cl m n) (hn : n ≤ n') : Cok cl m n' :=
  ⟨h.arg0, h.arg1, h.op, h.b0, by have := h.b1; omega, by rcases h.way with h | ⟨h1, h2, h3, h4⟩; exact .inl h; exact .inr ⟨h1, h2, by omega, h4⟩⟩
/-- A busy thread's call. -/
def Tok (P : Pm) (i : Nat) (t : Pt) : Prop := ∃ (c : Nat) (cl : Cl), t.call = c ∧ P.cls[c]? = some cl ∧ cl.fin = -1 ∧ cl.th = i ∧ cl.op = t.tk.op ∧ cl.arg = t.tk.ad ∧ cl.beg < P.n
structure Hs (P : Pm) : Prop where
  cl : ∀ (c : Nat) (cl : Cl), P.cls[c]? = some cl → Cok cl P.ws.length P.n
  th : ∀ (i : Nat) (t : Pt), P.pts[i]? = some t → t.tk.busy = true → Tok P i t
def ended (cl : Cl) (k x : Int) : Cl := { cl with pt := k, fin := k, ak := 2, av := wrap64 x }
def bumped (ws : List Int) (cl : Cl) : List Int := if cl.op = 2 then ws.set cl.arg.toNat (up (ws[cl.arg.toNat]?.getD 0)) else ws
/-- What a move makes. -/
inductive Ch (P P' : Pm) : Prop
  | none (hc : P'.cls = P.cls) (hw : P'.ws = P.ws)
  | begins (cl : Cl) (hc : P'.cls = P.cls ++ [cl]) (hw : P'.ws = P.ws) (hb : cl.beg = P.n) (hp : cl.pt = -1) (hf : cl.fin = -1)
  | ends (c : Nat) (cl : Cl) (hcl : P.cls[c]? = some cl) (hf : cl.fin = -1) (hc : P'.cls = P.cls.set c (ended cl P.n (P.ws[cl.arg.toNat]?.getD 0))) (hw : P'.ws = bumped P.ws cl)
theorem setC_at (cls : List Cl) (c : Nat) (now x : Int) (cl : Cl) (h : cls[c]? = some cl) : setC cls c now x = cls.set c (ended cl now x) := by unfold setC; rw [h]; rfl
theorem step_hit (P : Pm) (i : Nat) (fr : Bool) (call : Int) (ad : Nat) (x now : Int) (hx : P.ws[ad]?.getD 0 = x) : P.step i ⟨.bump ad x true, fr, call⟩ now = ({ P with ws := P.ws.set ad (up x), lg := P.lg ++ [⟨now, i, 3, ad, x, up x, x⟩], cls := setC P.cls call.toNat now x, pts := P.pts.set i ⟨.idle, false, call⟩ }, true) := if_pos hx
theorem step_miss (P : Pm) (i : Nat) (fr : Bool) (call : Int) (ad : Nat) (x now : Int) (hx : ¬ P.ws[ad]?.getD 0 = x) : P.step i ⟨.bump ad x true, fr, call⟩ now = ({ P with lg := P.lg ++ [⟨now, i, 3, ad, x, up x, P.ws[ad]?.getD 0⟩], pts := P.pts.set i ⟨.bump ad x false, false, call⟩ }, true) := if_neg hx
theorem step_ch {P : Pm} (h : Hs P) (i : Nat) (t : Pt) (ht : P.pts[i]? = some t) : Ch P (P.count.step i t P.n).1 := by
  obtain ⟨tk, fr, call⟩ := t
  cases tk with
  | idle => exact .none rfl rfl
  | look ad =>
    obtain ⟨c, cl, hcall, hcl, hf, hth, hop, harg, hb⟩ := h.th i _ ht rfl
    have ha : cl.arg.toNat = ad := by rw [harg]; simp [PT.ad]
    simp only at hcall
    subst hcall
    refine .ends c cl hcl hf ?_ ?_
    · simp only [Pm.step, Pm.count, Int.toNat_natCast]
      rw [setC_at _ _ _ _ cl hcl, ha]
    · simp only [Pm.step, Pm.count, bumped, hop, PT.op]
      rfl
  | bump ad x ld =>
    cases ld with
    | false => exact .none rfl rfl
    | true =>
      by_cases hx : P.ws[ad]?.getD 0 = x
      · obtain ⟨c, cl, hcall, hcl, hf, hth, hop, harg, hb⟩ := h.th i _ ht rfl
        have ha : cl.arg.toNat = ad := by rw [harg]; simp [PT.ad]
        simp only at hcall
        subst hcall
        refine .ends c cl hcl hf ?_ ?_
        · rw [step_hit P.count i _ _ ad x _ hx]
          simp only [Pm.count, Int.toNat_natCast]
          rw [setC_at _ _ _ _ cl hcl, ha, hx]
        · rw [step_hit P.count i _ _ ad x _ hx]
          simp only [Pm.count, bumped, hop, PT.op, ha]
          rw [hx]
          rfl
      · rw [step_miss P.count i _ _ ad x _ hx]
        exact .none rfl rfl
theorem begins_ch {P : Pm} (i : Nat) (op arg data : Int) : Ch P (P.count.begins i op arg data P.n).1 := by
  unfold Pm.begins
  split
  · exact .begins _ rfl rfl rfl rfl rfl
  · exact .none rfl rfl
theorem move_ch {P : Pm} (h : Hs P) (th op arg data : Int) : Ch P (P.move th op arg data).1 := by
  unfold Pm.move
  split
  · exact .none rfl rfl
  · split
    · split
      · exact .none rfl rfl
      · rename_i t ht
        split
        · exact step_ch h _ t ht
        · split
          · exact .none rfl rfl
          · exact begins_ch _ op arg data
    · exact .none rfl rfl
theorem set_get {α : Type} {l : List α} {i j : Nat} {x y : α} (h : (l.set i x)[j]? = some y) : (j = i ∧ y = x) ∨ (j ≠ i ∧ l[j]? = some y) := by
  rw [List.getElem?_set] at h
  split at h
  · rename_i e
    split at h
    · exact .inl ⟨e.symm, by simpa using h.symm⟩
    · cases h
  · rename_i e
    exact .inr ⟨fun e' => e e'.symm, h⟩
theorem Hs.ends {P P' : Pm} (h : Hs P) (c : Nat) (cl : Cl) (i : Nat) (x : Int) (t' : Pt) (hcl : P.cls[c]? = some cl) (hth : cl.th = i) (hi : t'.tk = .idle) (hn : P'.n = P.n + 1) (hc : P'.cls = P.cls.set c (ended cl P.n x)) (hw : P'.ws.length = P.ws.length) (hp : P'.pts = P.pts.set i t') : Hs P' := by
  refine ⟨fun d dl hd => ?_, fun j u hj hb => ?_⟩
  · rw [hw, hn]
    rw [hc] at hd
    rcases set_get hd with ⟨rfl, rfl⟩ | ⟨_, hd⟩
    · have k := h.cl _ cl hcl
      exact ⟨k.arg0, k.arg1, k.op, k.b0, by have := k.b1; simp only [ended]; omega, .inr ⟨rfl, k.b1, by simp only [ended]; omega, rfl⟩⟩
    · exact (h.cl d dl hd).mono (Nat.le_succ _)
  · rw [hp] at hj
    rcases set_get hj with ⟨rfl, rfl⟩ | ⟨hne, hj⟩
    · rw [hi] at hb; cases hb
    · obtain ⟨d, dl, h1, h2, h3, h4, h5, h6, h7⟩ := h.th j u hj hb
      have hdc : c ≠ d := fun e => by
        subst e
        rw [hcl] at h2
        cases h2
        omega
      exact ⟨d, dl, h1, by rw [hc, List.getElem?_set_ne hdc]; exact h2, h3, h4, h5, h6, by rw [hn]; omega⟩
theorem Hs.keeps {P P' : Pm} (h : Hs P) (i : Nat) (t' : Pt) (ht : t'.tk.busy = true → Tok P i t') (hn : P'.n = P.n + 1) (hc : P'.cls = P.cls) (hw : P'.ws.length = P.ws.length) (hp : P'.pts = P.pts.set i t') : Hs P' := by
  have tk : ∀ j u, Tok P j u → Tok P' j u := fun j u ⟨d, dl, h1, h2, h3, h4, h5, h6, h7⟩ => ⟨d, dl, h1, by rw [hc]; exact h2, h3, h4, h5, h6, by rw [hn]; omega⟩
  refine ⟨fun d dl hd => ?_, fun j u hj hb => ?_⟩
  · rw [hw, hn]
    rw [hc] at hd
    exact (h.cl d dl hd).mono (Nat.le_succ _)
  · rw [hp] at hj
    rcases set_get hj with ⟨rfl, rfl⟩ | ⟨hne, hj⟩
    · exact tk _ _ (ht hb)
    · exact tk _ _ (h.th j u hj hb)
theorem Hs.count {P : Pm} (h : Hs P) : Hs P.count :=
  ⟨fun c cl hc => (h.cl c cl hc).mono (Nat.le_succ _), fun i t ht hb => by
    obtain ⟨d, dl, h1, h2, h3, h4, h5, h6, h7⟩ := h.th i t ht hb
    exact ⟨d, dl, h1, h2, h3, h4, h5, h6, by simp only [Pm.count]; omega⟩⟩
theorem Hs.step {P : Pm} (h : Hs P) (i : Nat) (t : Pt) (ht : P.pts[i]? = some t) : Hs (P.count.step i t P.n).1 := by
  obtain ⟨tk, fr, call⟩ := t
  cases tk with
  | idle => exact h.count
  | look ad =>
    obtain ⟨c, cl, hcall, hcl, hf, hth, hop, harg, hb⟩ := h.th i _ ht rfl
    simp only at hcall
    subst hcall
    exact h.ends c cl i (P.ws[ad]?.getD 0) ⟨.idle, false, c⟩ hcl hth rfl rfl (setC_at _ _ _ _ cl hcl) rfl rfl
  | bump ad x ld =>
    have T := h.th i _ ht rfl
    cases ld with
    | false => exact h.keeps i ⟨.bump ad (P.ws[ad]?.getD 0) true, false, call⟩ (fun _ => T) rfl rfl rfl rfl
    | true =>
      by_cases hx : P.ws[ad]?.getD 0 = x
      · rw [step_hit P.count i _ _ ad x _ hx]
        obtain ⟨c, cl, hcall, hcl, hf, hth, hop, harg, hb⟩ := T
        simp only at hcall
        subst hcall
        exact h.ends c cl i x ⟨.idle, false, c⟩ hcl hth rfl rfl (setC_at _ _ _ _ cl hcl) (by simp [Pm.count]) rfl
      · rw [step_miss P.count i _ _ ad x _ hx]
        exact h.keeps i ⟨.bump ad x false, false, call⟩ (fun _ => T) rfl rfl rfl rfl
theorem Hs.begins {P : Pm} (h : Hs P) (i : Nat) (op arg data : Int) : Hs (P.count.begins i op arg data P.n).1 := by
  unfold Pm.begins
  split
  · rename_i hin
    obtain ⟨hop, ha0, ha1⟩ := hin
    refine ⟨fun d dl hd => ?_, fun j u hj hb => ?_⟩
    · simp only [Pm.count] at hd ha1 ⊢
      rw [List.getElem?_append] at hd
      split at hd
      · exact (h.cl d dl hd).mono (Nat.le_succ _)
      · rw [List.getElem?_singleton] at hd
        split at hd
        · cases hd
          exact ⟨ha0, ha1, hop, by simp, by simp; omega, .inl ⟨rfl, rfl, rfl, rfl⟩⟩
        · cases hd
    · simp only [Pm.count] at hj ⊢
      rcases set_get hj with ⟨rfl, rfl⟩ | ⟨hne, hj⟩
      · refine ⟨P.cls.length, ⟨j, op, arg, data, P.n, -1, -1, 0, 0⟩, rfl, by simp, rfl, rfl, ?_, ?_, by simp; omega⟩
        · simp only
          rcases hop with rfl | rfl <;> rfl
        · simp only
          rcases hop with rfl | rfl <;> simp [PT.ad] <;> omega
      · obtain ⟨d, dl, h1, h2, h3, h4, h5, h6, h7⟩ := h.th j u hj hb
        refine ⟨d, dl, h1, ?_, h3, h4, h5, h6, by simp; omega⟩
        rw [List.getElem?_append_left (List.getElem?_eq_some_iff.1 h2).1]
        exact h2
  · exact h.count
theorem Hs.move {P : Pm} (h : Hs P) (th op arg data : Int) : Hs (P.move th op arg data).1 := by
  unfold Pm.move
  split
  · exact h
  · split
    · split
      · exact h.count
      · rename_i t ht
        split
        · exact h.step _ t ht
        · split
          · exact h.count
          · exact h.begins _ op arg data
    · exact h.count
theorem Hs.new (nth : Nat) (ws : List Int) : Hs (Pm.new nth ws) :=
  ⟨fun c cl hc => by simp [Pm.new] at hc, fun i t ht hb => by
    simp only [Pm.new, List.getElem?_replicate] at ht
    split at ht
    · cases ht; cases hb
    · cases ht⟩
theorem Hs.play {P : Pm} (h : Hs P) : ∀ ms : List Mv, Hs (P.play ms) := fun ms => by
  induction ms generalizing P with
  | nil => exact h
  | cons m ms ih => exact ih (h.move _ _ _ _)
theorem move_n (P : Pm) (th op arg data : Int) (hn : P.n < 65536) : (P.move th op arg data).1.n = P.n + 1 := by
  unfold Pm.move
  rw [if_neg (by omega)]
  split
  · split
    · rfl
    · split
      · exact step_n P.count _ _ _
      · split
        · rfl
        · unfold Pm.begins; split <;> rfl
  · rfl
theorem play_n (P : Pm) (ms : List Mv) (hn : P.n + ms.length ≤ 65536) : (P.play ms).n = P.n + ms.length := by
  induction ms generalizing P with
  | nil => rfl
  | cons m ms ih =>
    simp only [List.length_cons] at hn
    have e := move_n P m.th m.op m.arg m.data (by omega)
    have := ih (P.move m.th m.op m.arg m.data).1 (by omega)
    simp only [Pm.play, List.foldl_cons, List.length_cons] at this ⊢
    rw [this, e]
    omega
end Go.Proofs.Ytiobchadjcekcaa.Ma
