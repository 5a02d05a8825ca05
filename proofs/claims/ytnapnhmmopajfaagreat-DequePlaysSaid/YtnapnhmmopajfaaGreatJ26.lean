import Derived.Deep.RegionHeld3
import Derived.WalkKit
/-
  A REGION THAT DRAWS, with several operations that make memory and may come in any order: walked by the set of those that are done, not by their orders.
-/
namespace Go.Proofs.YtnapnhmmopajfaaGreat.Cn
open Go.RowKit
set_option linter.unusedVariables false
def subs : List Nat → List (List Nat)
  | [] => [[]]
  | i :: l => subs l ++ (subs l).map (i :: ·)
theorem subs_filter (p : Nat → Bool) : ∀ l : List Nat, l.filter p ∈ subs l
  | [] => by simp [subs]
  | i :: l => by
    have := subs_filter p l
    by_cases h : p i = true
    · rw [List.filter_cons_of_pos h, subs, List.mem_append]; right; exact List.mem_map.2 ⟨_, this, rfl⟩
    · rw [List.filter_cons_of_neg h, subs, List.mem_append]; left; exact this
def setAll (L : Array Bool) (d : List Nat) : Array Bool := d.foldl (fun L i => L.setIfInBounds i true) L
theorem setAll_size (L : Array Bool) : ∀ d : List Nat, (setAll L d).size = L.size := by
  intro d
  induction d generalizing L with
  | nil => rfl
  | cons i d ih => unfold setAll at *; rw [List.foldl_cons, ih]; simp
theorem setAll_get (L : Array Bool) (k : Nat) : ∀ d : List Nat, (setAll L d)[k]? = if k < L.size then (if k ∈ d then some true else L[k]?) else none := by
  intro d
  induction d generalizing L with
  | nil => unfold setAll; simp only [List.foldl_nil]; by_cases h : k < L.size <;> simp [h]
  | cons i d ih =>
    have h1 := ih (L.setIfInBounds i true)
    unfold setAll at *
    rw [List.foldl_cons, h1]
    by_cases h : k < L.size
    · by_cases hd : k ∈ d
      · simp [h, hd]
      · by_cases hi : i = k
        · subst hi; simp [h]
        · have : k ≠ i := fun e => hi e.symm
          rw [Array.getElem?_setIfInBounds_ne hi]; simp [h, hd, this]
    · simp [h]
theorem setAll_ext (L : Array Bool) {d e : List Nat} (h : ∀ k, k ∈ d ↔ k ∈ e) : setAll L d = setAll L e := by
  apply Array.ext_getElem?
  intro k
  rw [setAll_get, setAll_get]
  simp only [h]
theorem setAll_snoc (L : Array Bool) (d : List Nat) (i : Nat) : (setAll L d).setIfInBounds i true = setAll L (d ++ [i]) := by unfold setAll; rw [List.foldl_append]; rfl
/-- While not all of al are done only those of al come up, each behind those that it needs. -/
def chk (md : Region.Mode) (ops : Array Oper) (L : Array Bool) (al : List Nat) (dep : Nat → List Nat) : Bool :=
  (subs al).all fun d => d.length == al.length || (!(Region.ready md ops (setAll L d)).isEmpty && (Region.ready md ops (setAll L d)).all fun i => al.contains i && !d.contains i && (dep i).all d.contains)
def upd (x : Nat → Value) (i : Nat) (y : Value) : Nat → Value := fun j => if j = i then y else x j
theorem upd_self (x : Nat → Value) (i : Nat) (y : Value) : upd x i y i = y := by simp [upd]
theorem upd_ne (x : Nat → Value) {i j : Nat} (y : Value) (h : j ≠ i) : upd x i y j = x j := by simp [upd, h]
theorem filter_full {p : Nat → Bool} {l : List Nat} (h : (l.filter p).length = l.length) : ∀ i ∈ l, p i = true := by
  have := List.length_filter_eq_length_iff.1 h
  exact this
section
variable {P : Program} {ops : Array Oper} {Q : Exit → Act → World → Prop} {md : Region.Mode} {S : World → Prop}
theorem wpAnyH_float {al : List Nat} {dep : Nat → List Nat} {L : Array Bool} (hnd : al.Nodup) (hchk : chk md ops L al dep = true) (A : (Nat → Value) → Act) (Φ : Nat → Value → World → Prop) (G : World → Prop)
    (hstep : ∀ i ∈ al, ∀ (x : Nat → Value) (d : List Nat) (w : World), S w → G w → (∀ j ∈ d, Φ j (x j) w) → (∀ j ∈ dep i, j ∈ d) → ∀ K : Act → World → Prop, (∀ y w', S w' → G w' → (∀ j ∈ d, Φ j (x j) w') → Φ i y w' → K (A (upd x i y)) w') → wpOp P ops Q i K (A x) w)
    {fuel : Nat} (hend : ∀ (x : Nat → Value) (w : World), S w → G w → (∀ j ∈ al, Φ j (x j) w) → wpAnyH P md ops Q S fuel (setAll L al) (A x) w) :
    ∀ (n : Nat) (p : Nat → Bool) (x : Nat → Value) (w : World), n = al.length - (al.filter p).length → S w → G w → (∀ j ∈ al.filter p, Φ j (x j) w) → wpAnyH P md ops Q S (fuel + n) (setAll L (al.filter p)) (A x) w := by
  intro n
  induction n with
  | zero =>
    intro p x w hn hS hG hΦ
    have hle := List.length_filter_le p al
    have hf := filter_full (p := p) (l := al) (by omega)
    have he : al.filter p = al := List.filter_eq_self.2 hf
    rw [he] at hΦ ⊢
    exact hend x w hS hG hΦ
  | succ n ih =>
    intro p x w hn hS hG hΦ
    have h1 := List.all_eq_true.1 hchk _ (subs_filter p al)
    have hlt : ¬ (al.filter p).length = al.length := by omega
    simp only [Bool.or_eq_true, beq_iff_eq, hlt, false_or, Bool.and_eq_true, List.all_eq_true] at h1
    refine ⟨fun h0 => by rw [h0] at h1; simp at h1, fun i hi => ?_⟩
    have h2 := h1.2 i hi
    have hia : i ∈ al := by simpa using h2.1.1
    have hid : i ∉ al.filter p := fun hm => by have h3 := h2.1.2; rw [Bool.not_eq_true', List.contains_eq_mem, decide_eq_false_iff_not] at h3; exact h3 hm
    have hde : ∀ j ∈ dep i, j ∈ al.filter p := fun j hj => by simpa using h2.2 j hj
    refine hstep i hia x (al.filter p) w hS hG hΦ hde _ (fun y w' hS' hG' hΦ' hy => ⟨hS', ?_⟩)
    have hpi : p i = false := by
      cases h : p i with
      | false => rfl
      | true => exact absurd (List.mem_filter.2 ⟨hia, h⟩) hid
    have hmem : ∀ k, k ∈ al.filter p ++ [i] ↔ k ∈ al.filter (fun j => p j || decide (j = i)) := by
      intro k
      simp only [List.mem_append, List.mem_filter, List.mem_singleton, Bool.or_eq_true, decide_eq_true_eq]
      constructor
      · rintro (⟨h, h'⟩ | rfl)
        · exact ⟨h, .inl h'⟩
        · exact ⟨hia, .inr rfl⟩
      · rintro ⟨h, h' | h'⟩
        · exact .inl ⟨h, h'⟩
        · exact .inr h'
    rw [setAll_snoc, setAll_ext L hmem]
    refine ih _ (upd x i y) w' ?_ hS' hG' (fun j hj => ?_)
    · have : (al.filter (fun j => p j || decide (j = i))).length = (al.filter p).length + 1 := by
        clear ih hstep hend hΦ hΦ' h1 h2 hmem hid hde hchk hn hlt hi
        induction al with
        | nil => simp at hia
        | cons a l ihl =>
          have hn2 := List.nodup_cons.1 hnd
          by_cases hai : a = i
          · subst hai
            have : l.filter (fun j => p j || decide (j = a)) = l.filter p := by
              apply List.filter_congr
              intro j hj
              have : j ≠ a := fun e => hn2.1 (e ▸ hj)
              simp [this]
            rw [List.filter_cons_of_pos (by simp), List.filter_cons_of_neg (by simp [hpi]), this]
            rfl
          · have hil : i ∈ l := by
              rcases List.mem_cons.1 hia with e | h
              · exact absurd e.symm hai
              · exact h
            have := ihl hn2.2 hil
            by_cases hpa : p a = true
            · rw [List.filter_cons_of_pos (by simp [hpa]), List.filter_cons_of_pos hpa]; simp [this]
            · rw [List.filter_cons_of_neg (by simp [hpa, hai]), List.filter_cons_of_neg hpa]; exact this
      omega
    · rcases List.mem_append.1 ((hmem j).2 hj) with h | h
      · have hji : j ≠ i := fun e => hid (e ▸ h)
        rw [upd_ne x y hji]; exact hΦ' j h
      · simp at h; subst h; rw [upd_self]; exact hy
/-- From the beginning. -/
theorem wpAnyH_floats {al : List Nat} {dep : Nat → List Nat} {L : Array Bool} {n fuel : Nat} (hnd : al.Nodup) (hchk : chk md ops L al dep = true) (hn : n = fuel + al.length) (A : (Nat → Value) → Act) (Φ : Nat → Value → World → Prop) (G : World → Prop) (x : Nat → Value) (w : World) (hS : S w) (hG : G w)
    (hstep : ∀ i ∈ al, ∀ (x : Nat → Value) (d : List Nat) (w : World), S w → G w → (∀ j ∈ d, Φ j (x j) w) → (∀ j ∈ dep i, j ∈ d) → ∀ K : Act → World → Prop, (∀ y w', S w' → G w' → (∀ j ∈ d, Φ j (x j) w') → Φ i y w' → K (A (upd x i y)) w') → wpOp P ops Q i K (A x) w)
    (hend : ∀ (x : Nat → Value) (w : World), S w → G w → (∀ j ∈ al, Φ j (x j) w) → wpAnyH P md ops Q S fuel (setAll L al) (A x) w) : wpAnyH P md ops Q S n L (A x) w := by
  have hf : al.filter (fun _ => false) = [] := by simp
  have := wpAnyH_float hnd hchk A Φ G hstep hend al.length (fun _ => false) x w (by rw [hf]; simp) hS hG (by rw [hf]; simp)
  rw [hf] at this
  rw [hn]
  exact this
end
end Go.Proofs.YtnapnhmmopajfaaGreat.Cn
/-
  CnFloat's law again, where only the sets that are closed under 'dep' are looked at.
-/
namespace Go.Proofs.YtnapnhmmopajfaaGreat.Cn
open Go.RowKit
set_option linter.unusedVariables false
def cls2 (d : List Nat) (dep : Nat → List Nat) : Bool := d.all fun i => (dep i).all d.contains
def chk2 (md : Region.Mode) (ops : Array Oper) (L : Array Bool) (al : List Nat) (dep : Nat → List Nat) : Bool :=
  (subs al).all fun d => !cls2 d dep || (d.length == al.length || (!(Region.ready md ops (setAll L d)).isEmpty && (Region.ready md ops (setAll L d)).all fun i => al.contains i && !d.contains i && (dep i).all d.contains))
section
variable {P : Program} {ops : Array Oper} {Q : Exit → Act → World → Prop} {md : Region.Mode} {S : World → Prop}
theorem wpAnyH_float2 {al : List Nat} {dep : Nat → List Nat} {L : Array Bool} (hnd : al.Nodup) (hchk : chk2 md ops L al dep = true) (A : (Nat → Value) → Act) (Φ : Nat → Value → World → Prop) (G : World → Prop)
    (hstep : ∀ i ∈ al, ∀ (x : Nat → Value) (d : List Nat) (w : World), S w → G w → (∀ j ∈ d, Φ j (x j) w) → (∀ j ∈ dep i, j ∈ d) → ∀ K : Act → World → Prop, (∀ y w', S w' → G w' → (∀ j ∈ d, Φ j (x j) w') → Φ i y w' → K (A (upd x i y)) w') → wpOp P ops Q i K (A x) w)
    {fuel : Nat} (hend : ∀ (x : Nat → Value) (w : World), S w → G w → (∀ j ∈ al, Φ j (x j) w) → wpAnyH P md ops Q S fuel (setAll L al) (A x) w) :
    ∀ (n : Nat) (p : Nat → Bool) (x : Nat → Value) (w : World), n = al.length - (al.filter p).length → cls2 (al.filter p) dep = true → S w → G w → (∀ j ∈ al.filter p, Φ j (x j) w) → wpAnyH P md ops Q S (fuel + n) (setAll L (al.filter p)) (A x) w := by
  intro n
  induction n with
  | zero =>
    intro p x w hn hcl hS hG hΦ
    have hle := List.length_filter_le p al
    have hf := filter_full (p := p) (l := al) (by omega)
    have he : al.filter p = al := List.filter_eq_self.2 hf
    rw [he] at hΦ ⊢
    exact hend x w hS hG hΦ
  | succ n ih =>
    intro p x w hn hcl hS hG hΦ
    have h1 := List.all_eq_true.1 hchk _ (subs_filter p al)
    have hlt : ¬ (al.filter p).length = al.length := by omega
    rw [hcl] at h1
    simp only [Bool.not_true, Bool.false_or, Bool.or_eq_true, beq_iff_eq, hlt, false_or, Bool.and_eq_true, List.all_eq_true] at h1
    refine ⟨fun h0 => by rw [h0] at h1; simp at h1, fun i hi => ?_⟩
    have h2 := h1.2 i hi
    have hia : i ∈ al := by simpa using h2.1.1
    have hid : i ∉ al.filter p := fun hm => by have h3 := h2.1.2; rw [Bool.not_eq_true', List.contains_eq_mem, decide_eq_false_iff_not] at h3; exact h3 hm
    have hde : ∀ j ∈ dep i, j ∈ al.filter p := fun j hj => by simpa using h2.2 j hj
    refine hstep i hia x (al.filter p) w hS hG hΦ hde _ (fun y w' hS' hG' hΦ' hy => ⟨hS', ?_⟩)
    have hpi : p i = false := by
      cases h : p i with
      | false => rfl
      | true => exact absurd (List.mem_filter.2 ⟨hia, h⟩) hid
    have hmem : ∀ k, k ∈ al.filter p ++ [i] ↔ k ∈ al.filter (fun j => p j || decide (j = i)) := by
      intro k
      simp only [List.mem_append, List.mem_filter, List.mem_singleton, Bool.or_eq_true, decide_eq_true_eq]
      constructor
      · rintro (⟨h, h'⟩ | rfl)
        · exact ⟨h, .inl h'⟩
        · exact ⟨hia, .inr rfl⟩
      · rintro ⟨h, h' | h'⟩
        · exact .inl ⟨h, h'⟩
        · exact .inr h'
    rw [setAll_snoc, setAll_ext L hmem]
    refine ih _ (upd x i y) w' ?_ ?_ hS' hG' (fun j hj => ?_)
    · have : (al.filter (fun j => p j || decide (j = i))).length = (al.filter p).length + 1 := by
        clear hcl ih hstep hend hΦ hΦ' h1 h2 hmem hid hde hchk hn hlt hi
        induction al with
        | nil => simp at hia
        | cons a l ihl =>
          have hn2 := List.nodup_cons.1 hnd
          by_cases hai : a = i
          · subst hai
            have : l.filter (fun j => p j || decide (j = a)) = l.filter p := by
              apply List.filter_congr
              intro j hj
              have : j ≠ a := fun e => hn2.1 (e ▸ hj)
              simp [this]
            rw [List.filter_cons_of_pos (by simp), List.filter_cons_of_neg (by simp [hpi]), this]
            rfl
          · have hil : i ∈ l := by
              rcases List.mem_cons.1 hia with e | h
              · exact absurd e.symm hai
              · exact h
            have := ihl hn2.2 hil
            by_cases hpa : p a = true
            · rw [List.filter_cons_of_pos (by simp [hpa]), List.filter_cons_of_pos hpa]; simp [this]
            · rw [List.filter_cons_of_neg (by simp [hpa, hai]), List.filter_cons_of_neg hpa]; exact this
      omega
    · unfold cls2 at hcl ⊢
      rw [List.all_eq_true] at hcl ⊢
      intro k hk
      rw [List.all_eq_true]
      intro j hj
      rw [List.contains_eq_mem, decide_eq_true_eq]
      refine (hmem j).1 (List.mem_append.2 (.inl ?_))
      rcases List.mem_append.1 ((hmem k).2 hk) with h | h
      · have := List.all_eq_true.1 (hcl k h) j hj
        simpa using this
      · simp at h; subst h; exact hde j hj
    · rcases List.mem_append.1 ((hmem j).2 hj) with h | h
      · have hji : j ≠ i := fun e => hid (e ▸ h)
        rw [upd_ne x y hji]; exact hΦ' j h
      · simp at h; subst h; rw [upd_self]; exact hy
/-- From the beginning. -/
theorem wpAnyH_floats2 {al : List Nat} {dep : Nat → List Nat} {L : Array Bool} {n fuel : Nat} (hnd : al.Nodup) (hchk : chk2 md ops L al dep = true) (hn : n = fuel + al.length) (A : (Nat → Value) → Act) (Φ : Nat → Value → World → Prop) (G : World → Prop) (x : Nat → Value) (w : World) (hS : S w) (hG : G w)
    (hstep : ∀ i ∈ al, ∀ (x : Nat → Value) (d : List Nat) (w : World), S w → G w → (∀ j ∈ d, Φ j (x j) w) → (∀ j ∈ dep i, j ∈ d) → ∀ K : Act → World → Prop, (∀ y w', S w' → G w' → (∀ j ∈ d, Φ j (x j) w') → Φ i y w' → K (A (upd x i y)) w') → wpOp P ops Q i K (A x) w)
    (hend : ∀ (x : Nat → Value) (w : World), S w → G w → (∀ j ∈ al, Φ j (x j) w) → wpAnyH P md ops Q S fuel (setAll L al) (A x) w) : wpAnyH P md ops Q S n L (A x) w := by
  have hf : al.filter (fun _ => false) = [] := by simp
  have := wpAnyH_float2 hnd hchk A Φ G hstep hend al.length (fun _ => false) x w (by rw [hf]; simp) (by rw [hf]; rfl) hS hG (by rw [hf]; simp)
  rw [hf] at this
  rw [hn]
  exact this
end
end Go.Proofs.YtnapnhmmopajfaaGreat.Cn
