/-
  THE MACHINE: a move in full; the log of a run.
-/
import Derived.Test.YtiobchadjcekcaaMacCntP
namespace Go.Proofs.Ytiobchadjcekcaa.Ma
open Go.RowKit Mr Me
def Does (P : Pm) (m : Mv) (t : Pt) : Prop := (m.op = 0 ∧ t.tk.busy = true) ∨ (m.op ≠ 0 ∧ t.tk.busy = false ∧ (m.op = 1 ∨ m.op = 2) ∧ 0 ≤ m.arg ∧ m.arg < P.ws.length)
/-- What a move is, in full. -/
inductive Mx (P : Pm) (m : Mv) (P' : Pm) (b : Bool) : Prop
  | out (h : ¬ (0 ≤ m.th ∧ m.th < P.pts.length)) (hb : b = false) (e : P' = P.count)
  | rest (t : Pt) (h0 : 0 ≤ m.th) (ht : P.pts[m.th.toNat]? = some t) (hd : ¬ Does P m t) (hb : b = false) (e : P' = P.count)
  | begins (t : Pt) (h0 : 0 ≤ m.th) (ht : P.pts[m.th.toNat]? = some t) (hi : t.tk.busy = false) (hop : m.op = 1 ∨ m.op = 2) (ha0 : 0 ≤ m.arg) (ha1 : m.arg < P.ws.length) (hb : b = true)
      (e : P' = { P.count with cls := P.cls ++ [⟨m.th.toNat, m.op, m.arg, m.data, P.n, -1, -1, 0, 0⟩], pts := P.pts.set m.th.toNat ⟨if m.op = 1 then .look m.arg.toNat else .bump m.arg.toNat 0 false, true, (P.cls.length : Int)⟩ })
  | look (ad : Nat) (fr : Bool) (c : Nat) (cl : Cl) (h0 : 0 ≤ m.th) (ht : P.pts[m.th.toNat]? = some ⟨.look ad, fr, c⟩) (hop : m.op = 0) (hcl : P.cls[c]? = some cl) (hb : b = true)
      (e : P' = { P.count with lg := P.lg ++ [⟨P.n, m.th.toNat, 1, ad, 0, 0, P.ws[ad]?.getD 0⟩], cls := P.cls.set c (ended cl P.n (P.ws[ad]?.getD 0)), pts := P.pts.set m.th.toNat ⟨.idle, false, c⟩ })
  | load (ad : Nat) (x : Int) (fr : Bool) (c : Nat) (cl : Cl) (h0 : 0 ≤ m.th) (ht : P.pts[m.th.toNat]? = some ⟨.bump ad x false, fr, c⟩) (hop : m.op = 0) (hcl : P.cls[c]? = some cl) (hb : b = true)
      (e : P' = { P.count with lg := P.lg ++ [⟨P.n, m.th.toNat, 1, ad, 0, 0, P.ws[ad]?.getD 0⟩], pts := P.pts.set m.th.toNat ⟨.bump ad (P.ws[ad]?.getD 0) true, false, c⟩ })
  | hit (ad : Nat) (x : Int) (fr : Bool) (c : Nat) (cl : Cl) (h0 : 0 ≤ m.th) (ht : P.pts[m.th.toNat]? = some ⟨.bump ad x true, fr, c⟩) (hop : m.op = 0) (hcl : P.cls[c]? = some cl) (hx : P.ws[ad]?.getD 0 = x) (hb : b = true)
      (e : P' = { P.count with ws := P.ws.set ad (up x), lg := P.lg ++ [⟨P.n, m.th.toNat, 3, ad, x, up x, x⟩], cls := P.cls.set c (ended cl P.n x), pts := P.pts.set m.th.toNat ⟨.idle, false, c⟩ })
  | miss (ad : Nat) (x : Int) (fr : Bool) (c : Nat) (cl : Cl) (h0 : 0 ≤ m.th) (ht : P.pts[m.th.toNat]? = some ⟨.bump ad x true, fr, c⟩) (hop : m.op = 0) (hcl : P.cls[c]? = some cl) (hx : ¬ P.ws[ad]?.getD 0 = x) (hb : b = true)
      (e : P' = { P.count with lg := P.lg ++ [⟨P.n, m.th.toNat, 3, ad, x, up x, P.ws[ad]?.getD 0⟩], pts := P.pts.set m.th.toNat ⟨.bump ad x false, false, c⟩ })
theorem move_mx {P : Pm} (h : Hs P) (m : Mv) (hn : P.n < 65536) : Mx P m (P.move m.th m.op m.arg m.data).1 (P.move m.th m.op m.arg m.data).2 := by
  unfold Pm.move
  rw [if_neg (by omega)]
  by_cases hin : 0 ≤ m.th ∧ m.th < P.pts.length
  · rw [if_pos hin]
    obtain ⟨t, ht⟩ : ∃ t, P.pts[m.th.toNat]? = some t := ⟨_, List.getElem?_eq_getElem (by omega)⟩
    rw [ht]
    simp only
    by_cases hop : m.op = 0
    · rw [if_pos hop]
      cases hbz : t.tk.busy with
      | false =>
        have e : t.tk = .idle := by
          rcases t with ⟨tk, fr, call⟩
          cases tk <;> first | rfl | cases hbz
        have : P.count.step m.th.toNat t P.n = (P.count, false) := by unfold Pm.step; rw [e]
        rw [this]
        exact .rest t hin.1 ht (by unfold Does; rw [hbz]; simp [hop]) rfl rfl
      | true =>
        obtain ⟨c, cl, hcall, hcl, hf, hth, hop', harg, hb⟩ := h.th _ _ ht hbz
        obtain ⟨tk, fr, call⟩ := t
        simp only at hcall
        subst hcall
        cases tk with
        | idle => cases hbz
        | look ad =>
          refine .look ad fr c cl hin.1 ht hop hcl rfl ?_
          simp only [Pm.step, Pm.count, Int.toNat_natCast]
          rw [setC_at _ _ _ _ cl hcl]
        | bump ad x ld =>
          cases ld with
          | false => exact .load ad x fr c cl hin.1 ht hop hcl rfl rfl
          | true =>
            by_cases hx : P.ws[ad]?.getD 0 = x
            · rw [step_hit P.count _ _ _ ad x _ hx]
              refine .hit ad x fr c cl hin.1 ht hop hcl hx rfl ?_
              simp only [Pm.count, Int.toNat_natCast]
              rw [setC_at _ _ _ _ cl hcl]
            · rw [step_miss P.count _ _ _ ad x _ hx]
              exact .miss ad x fr c cl hin.1 ht hop hcl hx rfl rfl
    · rw [if_neg hop]
      cases hbz : t.tk.busy with
      | true =>
        rw [if_pos rfl]
        exact .rest t hin.1 ht (by unfold Does; rw [hbz]; simp [hop]) rfl rfl
      | false =>
        rw [if_neg (by simp)]
        by_cases hc : (m.op = 1 ∨ m.op = 2) ∧ 0 ≤ m.arg ∧ m.arg < P.ws.length
        · have : P.count.begins m.th.toNat m.op m.arg m.data P.n = ({ P.count with cls := P.cls ++ [⟨m.th.toNat, m.op, m.arg, m.data, P.n, -1, -1, 0, 0⟩], pts := P.pts.set m.th.toNat ⟨if m.op = 1 then .look m.arg.toNat else .bump m.arg.toNat 0 false, true, (P.cls.length : Int)⟩ }, true) := if_pos hc
          rw [this]
          exact .begins t hin.1 ht hbz hc.1 hc.2.1 hc.2.2 rfl rfl
        · have : P.count.begins m.th.toNat m.op m.arg m.data P.n = (P.count, false) := if_neg hc
          rw [this]
          exact .rest t hin.1 ht (by unfold Does; rw [hbz]; rintro (⟨_, h⟩ | ⟨_, _, h⟩); cases h; exact hc h) rfl rfl
  · rw [if_neg hin]
    exact .out hin rfl rfl
theorem mx_lg {P P' : Pm} {m : Mv} {b : Bool} (h : Mx P m P' b) : ∃ l, P'.lg = P.lg ++ l ∧ ∀ e ∈ l, e.mv = (P.n : Int) := by
  cases h <;> rename_i e <;> subst e <;> first
    | exact ⟨[], (List.append_nil _).symm, fun e he => by cases he⟩
    | exact ⟨_, rfl, fun e he => by simp only [List.mem_singleton] at he; rw [he]⟩
theorem mx_n {P P' : Pm} {m : Mv} {b : Bool} (h : Mx P m P' b) : P'.n = P.n + 1 := by
  cases h <;> rename_i e <;> subst e <;> rfl
theorem mx_pts {P P' : Pm} {m : Mv} {b : Bool} (h : Mx P m P' b) : P'.pts.length = P.pts.length := by
  cases h <;> rename_i e <;> subst e <;> simp [Pm.count]
/-- The log's moves. -/
def Lo (P : Pm) : Prop := ∀ e ∈ P.lg, 0 ≤ e.mv ∧ e.mv < P.n
theorem Lo.mx {P P' : Pm} {m : Mv} {b : Bool} (h : Mx P m P' b) (hl : Lo P) : Lo P' := by
  obtain ⟨l, e, he⟩ := mx_lg h
  intro a ha
  rw [mx_n h]
  rw [e, List.mem_append] at ha
  rcases ha with ha | ha
  · have := hl a ha; omega
  · have := he a ha; omega
theorem play_mx {P : Pm} (h : Hs P) (ms : List Mv) (hn : P.n + ms.length ≤ 65536) : (P.play ms).pts.length = P.pts.length ∧ (∃ l, (P.play ms).lg = P.lg ++ l ∧ ∀ e ∈ l, (P.n : Int) ≤ e.mv) ∧ (Lo P → Lo (P.play ms)) := by
  induction ms generalizing P with
  | nil => exact ⟨rfl, ⟨[], (List.append_nil _).symm, fun e he => by cases he⟩, id⟩
  | cons m ms ih =>
    simp only [List.length_cons] at hn
    have mx := move_mx h m (by omega)
    have e := mx_n mx
    obtain ⟨a1, ⟨l, a2, a3⟩, a4⟩ := ih (h.move m.th m.op m.arg m.data) (by omega)
    obtain ⟨l0, b2, b3⟩ := mx_lg mx
    refine ⟨a1.trans (mx_pts mx), ⟨l0 ++ l, ?_, fun x hx => ?_⟩, fun hl => a4 (Lo.mx mx hl)⟩
    · show (((P.move m.th m.op m.arg m.data).1).play ms).lg = _
      rw [a2, b2, List.append_assoc]
    · rcases List.mem_append.1 hx with hx | hx
      · have := b3 x hx; omega
      · have := a3 x hx; omega
section
variable (nth : Nat) (ws : List Int) (ms : List Mv) (hms : ms.length ≤ 65536)
include hms in
theorem pk_mx (k : Nat) (hk : k < ms.length) : Mx (Pk nth ws ms k) (ms[k]?.getD noMv) (Pk nth ws ms (k + 1)) ((Pk nth ws ms k).move (ms[k]?.getD noMv).th (ms[k]?.getD noMv).op (ms[k]?.getD noMv).arg (ms[k]?.getD noMv).data).2 := by
  have e := pk_n nth ws ms hms k (by omega)
  have mx := move_mx (pk_hs nth ws ms k) (ms[k]?.getD noMv) (by omega)
  have s := play_snoc (Pm.new nth ws) ms k hk
  unfold Pk at mx ⊢
  rw [s]
  exact mx
theorem pk_play (k : Nat) : (Pm.new nth ws).play ms = (Pk nth ws ms k).play (ms.drop k) := by
  unfold Pk Pm.play
  rw [← List.foldl_append, List.take_append_drop]
include hms in
theorem pk_pts (k : Nat) (hk : k ≤ ms.length) : (Pk nth ws ms k).pts.length = nth := by
  have := (play_mx (Hs.new nth ws) (ms.take k) (by simp [Pm.new]; omega)).1
  rw [Pk, this]
  simp [Pm.new]
include hms in
theorem pk_lo (k : Nat) (hk : k ≤ ms.length) : Lo (Pk nth ws ms k) :=
  (play_mx (Hs.new nth ws) (ms.take k) (by simp [Pm.new]; omega)).2.2 (fun e he => by simp [Pm.new] at he)
include hms in
theorem pk_lg (k : Nat) (hk : k ≤ ms.length) : ∃ l, ((Pm.new nth ws).play ms).lg = (Pk nth ws ms k).lg ++ l ∧ ∀ e ∈ l, (k : Int) ≤ e.mv := by
  rw [pk_play nth ws ms k]
  have e := pk_n nth ws ms hms k hk
  have := (play_mx (pk_hs nth ws ms k) (ms.drop k) (by rw [e]; simp; omega)).2.1
  rw [e] at this
  exact this
end
/-- The calls that end at the move n. -/
theorem fin_key {P P' Q : Pm} (hQ : Hs Q) (hn : P'.n = P.n + 1) (he : Ext P' Q) (c : Nat) (cl : Cl) (hq : Q.cls[c]? = some cl) (hp : cl.fin = P.n) : P'.cls[c]? = some cl := by
  by_cases hl : c < P'.cls.length
  · obtain ⟨cl1, h1⟩ : ∃ cl1, P'.cls[c]? = some cl1 := ⟨_, List.getElem?_eq_getElem hl⟩
    obtain ⟨cl2, h3, h4⟩ := he.old c cl1 h1
    rw [hq] at h3
    cases h3
    rcases h4 with rfl | ⟨_, k, x, hk, rfl⟩
    · exact h1
    · simp only [ended] at hp
      omega
  · have hb := he.new c cl hq (by omega)
    have hw := (hQ.cl c cl hq).way
    rcases hw with ⟨h1, h2, _⟩ | ⟨h1, h2, _⟩ <;> omega
theorem fin_old {P : Pm} (h : Hs P) (c : Nat) (cl : Cl) (hp : P.cls[c]? = some cl) : cl.fin ≠ P.n := by
  have hw := (h.cl c cl hp).way
  rcases hw with ⟨h1, h2, _⟩ | ⟨h1, _, h2, _⟩ <;> omega
end Go.Proofs.Ytiobchadjcekcaa.Ma
