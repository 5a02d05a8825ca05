import Derived.Test.YtpknggcgojkjgaaGreatJ25
import Derived.Test.YtpknggcgojkjgaaGreatJ28
import Derived.Laws.CopyRow
import Derived.Laws.MakeOwn
import Derived.Deep.LoopGhost
import Derived.Test.YtpknggcgojkjgaaGreatJ14
/-
  CENSUS: slices.Repeat of one number: n of them.
-/
namespace Go.Proofs.YtpknggcgojkjgaaGreat.Cn
open Go.RowKit Go.Shelf Mr Md
set_option linter.unusedVariables false
set_option linter.unusedSimpArgs false
section
variable {P : Program}
theorem run_copy_rowN (w : World) (dT sT ty elem : TypeId) (g o dLen dCap : Nat) (a : Addr) (sLen sCap m : Nat) (cur : Array Value) (t : TypeId) (cs : List Value)
    (hu : P.underlying dT = some (.slice elem)) (hs : (P.info? elem).map (·.size) = some m)
    (hg : w.heap[g]? = some (.cells cur t (0, 0))) (hn : cs.length = Nat.min sLen dLen * m)
    (hsrc : ∀ j v, cs[j]? = some v → w.cell? (a.add j) = some v) (hfit : o + cs.length ≤ cur.size) (h1 : ∀ v ∈ cs, v.oneCell' = true) :
    (Builtin.copy_ #[dT, sT] ty #[.slice (some ⟨g, o, none⟩) dLen dCap, .slice (some a) sLen sCap]).run P w =
      .ok (goInt (Nat.min sLen dLen)) (w.setRow g (cur.toList.take o ++ cs ++ cur.toList.drop (o + cs.length)).toArray) := by
  have hl := run_loadCells_list (P := P) w a cs hsrc
  have hst := run_storeCells_at P g o t cs 0 cur w hg (by simpa using hfit) h1
  cases hq : P.info? elem with
  | none => simp [hq] at hs
  | some i =>
    have hi : i.size = m := by simpa [hq] using hs
    simp [Builtin.copy_, run_underlying hu, Builtin.lenOf, Builtin.firstCells, sizeOf, typeInfo, hq, hi, ← hn, hl, hst]
end
theorem info_int1 : (Tryz.prog.info? 3).map (fun i => (i.zero, i.size, i.bytes)) = some (some (.int .i64 0), 1, 8) := by kernel_rfl
def nvs (m : Nat) : List Value := List.replicate m (.int .i64 (-1))
theorem rep_one (m : Nat) : ∀ v ∈ nvs m, v.oneCell' = true := by
  intro v hv
  rw [(List.mem_replicate.1 hv).2]
  rfl
theorem rep_length (m : Nat) : (nvs m).length = m * 1 := by simp [nvs]
theorem rep_take (m k : Nat) (h : k ≤ m) : (nvs m).take (k * 1) = nvs k := by
  unfold nvs
  rw [List.take_replicate, Nat.mul_one, Nat.min_eq_left h]
theorem rep_add (m k : Nat) : nvs m ++ nvs k = nvs (m + k) := by
  unfold nvs
  rw [List.replicate_append_replicate]
/-- The first m of n are laid. -/
structure Lay (w0 : World) (B n : Nat) (m : Nat) (w : World) : Prop where
  row : ∃ cur : Array Value, w.heap[B]? = some (.cells cur 3 (0, 0)) ∧ cur.size = n * 1 ∧ cur.toList.take (m * 1) = nvs m
  bel : Below B w0 w
theorem Lay.copy {w0 w : World} {B n m : Nat} (h : Lay w0 B n m w) (hm : m < n) :
    ∃ w', (∀ ty, (Builtin.copy_ #[40, 40] ty #[.slice (some ⟨B, m * 1, none⟩) (n - m) (n - m), .slice (some ⟨B, 0, none⟩) m n]).run Tryz.prog w = .ok (.int .i64 ((Nat.min m (n - m) : Nat) : Int)) w') ∧ Lay w0 B n (m + Nat.min m (n - m)) w' := by
  obtain ⟨cur, hg, hsz, htk⟩ := h.row
  obtain ⟨k, hk⟩ : ∃ k, k = Nat.min m (n - m) := ⟨_, rfl⟩
  have hkm : k ≤ m := by rw [hk]; exact Nat.min_le_left _ _
  have hkn : m + k ≤ n := by have : Nat.min m (n - m) ≤ n - m := Nat.min_le_right _ _; omega
  rw [← hk]
  have hk5 : k * 1 ≤ m * 1 := Nat.mul_le_mul_right _ hkm
  have hkn5 : m * 1 + k * 1 ≤ n * 1 := by rw [← Nat.add_mul]; exact Nat.mul_le_mul_right _ hkn
  have hsrc : ∀ j v, (nvs k)[j]? = some v → w.cell? ((⟨B, 0, none⟩ : Addr).add j) = some v := by
    intro j v hv
    have hadd : (⟨B, 0, none⟩ : Addr).add j = ⟨B, j, none⟩ := by unfold Addr.add; split <;> simp_all
    have hj : j < k * 1 := by have := (List.getElem?_eq_some_iff.1 hv).1; rw [rep_length] at this; exact this
    rw [hadd, cell_of_row w B j cur 3 (0, 0) hg]
    rw [← rep_take m k hkm, ← htk, List.take_take, List.getElem?_take] at hv
    split at hv
    · simpa using hv
    · cases hv
  have hr := fun ty => run_copy_rowN (P := Tryz.prog) w 40 40 ty 3 B (m * 1) (n - m) (n - m) ⟨B, 0, none⟩ m n 1 cur 3 (nvs k) Tryz.underlying40 (by kernel_rfl) hg (by rw [rep_length, ← hk]) hsrc (by rw [rep_length]; omega) (rep_one k)
  simp only [← hk] at hr
  refine ⟨_, hr, ⟨⟨_, setRow_heap w B cur _ 3 _ hg, ?_, ?_⟩, ?_⟩⟩
  · simp only [List.size_toArray, List.length_append, List.length_take, List.length_drop, Array.length_toList, rep_length, hsz]
    omega
  · have e1 : cur.toList.take (m * 1) ++ nvs k = nvs (m + k) := by rw [htk, rep_add]
    show ((_ : List Value)).take _ = _
    rw [e1]
    exact List.take_left' (rep_length _)
  · exact ⟨h.bel.os, h.bel.tape, h.bel.output, by have := h.bel.size; simpa using this, fun j hj => (setRow_other w B j _ (by omega)).trans (h.bel.block j hj)⟩
set_option maxRecDepth 100000 in
set_option maxHeartbeats 2000000 in
theorem repeat_any (w : World) (g n : Nat) (h1 : 1 ≤ n) (h2 : n ≤ 1024) (hg : w.heap[g]? = some (.cells #[.int .i64 (-1)] 3 (0, 0))) :
    Calls Tryz.prog 65 #[.slice (some ⟨g, 0, none⟩) 1 1, .int .i64 (n : Int)] w fun e w' => e = .returned (.slice (some ⟨w.heap.size, 0, none⟩) n n) ∧ Has w' (fun k => w.heap.size ≤ k) 3 1 (.slice (some ⟨w.heap.size, 0, none⟩) n n) n (nvs n) ∧ Below w.heap.size w w' := by
  obtain ⟨i0, hi, hz0, hz1, hz2⟩ := info_parts info_int1
  have M := Ma.mul_one n (by omega) w
  have hmk : ∀ u : World, (Instr.makeSlice 40 (.int .i64 (n : Int)) (.int .i64 (n : Int))).run Tryz.prog u = .ok (.slice (some ⟨u.heap.size, 0, none⟩) n n) (u.alloc (.cells (madeCells #[.int .i64 0] (n * 1)) 3)) := fun u => by
    have h := run_make (P := Tryz.prog) u 40 3 i0 (.int .i64 0) Tryz.underlying40 hi hz0 .i64 .i64 (n : Int) (n : Int) (by omega) (Int.le_refl _) (by rw [hz2]; omega) (by omega)
    have e : ((n : Int)).toNat = n := by omega
    rw [e] at h
    rw [hz1] at h
    simpa [Value.cells] using h
  have hgl := (Array.getElem?_eq_some_iff.1 hg).1
  obtain ⟨W1, hW1⟩ : ∃ W1, w.alloc (.cells (madeCells #[.int .i64 0] (n * 1)) 3) = W1 := ⟨_, rfl⟩
  have hr1 : W1.heap[w.heap.size]? = some (.cells (madeCells #[.int .i64 0] (n * 1)) 3 (0, 0)) := by rw [← hW1]; exact heap_alloc_new w _
  have hms : (madeCells #[Value.int .i64 0] (n * 1)).size = n * 1 := size_madeCells _ _
  have hB1 : Below w.heap.size w W1 := by rw [← hW1]; exact (Below.refl _ _).alloc (Nat.le_refl _) _
  have hg1 : W1.heap[g]? = some (.cells #[.int .i64 (-1)] 3 (0, 0)) := (hB1.block g hgl).trans hg
  have hsrc : ∀ j v, (nvs 1)[j]? = some v → W1.cell? ((⟨g, 0, none⟩ : Addr).add j) = some v := World.news_of_block hg1
  have hmin : Nat.min 1 n = 1 := Nat.min_eq_left h1
  have hc0 : ∀ ty, (Builtin.copy_ #[40, 40] ty #[.slice (some ⟨w.heap.size, 0, none⟩) n n, .slice (some ⟨g, 0, none⟩) 1 1]).run Tryz.prog W1 = .ok (.int .i64 1) (W1.setRow w.heap.size ((madeCells #[Value.int .i64 0] (n * 1)).toList.take 0 ++ (nvs 1) ++ (madeCells #[Value.int .i64 0] (n * 1)).toList.drop (0 + (nvs 1).length)).toArray) := fun ty => by
    have := run_copy_rowN (P := Tryz.prog) W1 40 40 ty 3 w.heap.size 0 n n ⟨g, 0, none⟩ 1 1 1 _ 3 (nvs 1) Tryz.underlying40 (by kernel_rfl) hr1 (by rw [hmin]; rfl) hsrc (by rw [hms]; simp [nvs]; omega) (rep_one 1)
    rw [hmin] at this
    exact this
  have L1 : Lay w w.heap.size n 1 (W1.setRow w.heap.size ((madeCells #[Value.int .i64 0] (n * 1)).toList.take 0 ++ (nvs 1) ++ (madeCells #[Value.int .i64 0] (n * 1)).toList.drop (0 + (nvs 1).length)).toArray) := by
    refine ⟨⟨_, setRow_heap W1 _ _ _ 3 _ hr1, ?_, ?_⟩, ⟨hB1.os, hB1.tape, hB1.output, by have := hB1.size; simpa using this, fun j hj => (setRow_other W1 _ j _ (by omega)).trans (hB1.block j hj)⟩⟩
    · simp only [List.size_toArray, List.length_append, List.length_take, List.length_drop, Array.length_toList, hms, rep_length]
      omega
    · simp only [List.take_zero, List.nil_append]
      exact List.take_left' (rep_length _)
  generalize W1.setRow w.heap.size ((madeCells #[Value.int .i64 0] (n * 1)).toList.take 0 ++ (nvs 1) ++ (madeCells #[Value.int .i64 0] (n * 1)).toList.drop (0 + (nvs 1).length)).toArray = W2 at *
  have hmk' := hmk w
  rw [hW1] at hmk'
  have hd1 : decide ((n : Int) < 0) = false := by simp
  have hd2 : decide (9223372036854775807 < (n : Int)) = false := by simp; omega
  have hn16 : (n : Int) ≤ 1024 := by omega
  clear hmk hW1 hr1 hms hB1 hg1 hsrc hmin hg
  replace L1 := Mr.hid L1
  go_enter Tryz.func65, Tryz.ntmps65
  go_wp2_with (go_at_call 99; refine M.mono ?_; clear M; rintro e w' ⟨rfl, hw⟩; obtain rfl := hw.symm)
  go_loopg [8] n (fun k s wr => ∃ m : Nat, s = .int .i64 (m : Int) ∧ m + k = n + 1 ∧ 1 ≤ m ∧ m ≤ n ∧ Lay w w.heap.size n m wr)
  case atStart => exact ⟨1, rfl, by omega, Nat.le_refl _, h1, L1.out⟩
  case round =>
    obtain ⟨m, rfl, hmk, hm1, hmn, L⟩ := hrel
    by_cases hlt : m < n
    · have hLd : Lay w w.heap.size n m wr.drew := ⟨L.row, L.bel.drew⟩
      obtain ⟨w3, hc3, L3⟩ := hLd.copy hlt
      simp only [Nat.mul_one] at hc3
      have hne : m ≠ n := by omega
      have hne' : n ≠ m := by omega
      have hlt' : (m : Int) < (n : Int) := by omega
      have hmn' : (m : Int) ≤ (n : Int) := by omega
      have hmin : Nat.min m (n - m) ≤ n - m := Nat.min_le_right _ _
      have hmin1 : 1 ≤ Nat.min m (n - m) := Nat.le_min.2 ⟨hm1, by omega⟩
      generalize hk : Nat.min m (n - m) = k at *
      have hks : (m : Int) + (k : Int) ≤ 1024 := by omega
      replace L3 := Mr.hid L3
      replace L := Mr.hid L
      clear hLd hk hc0 hmk'
      go_wp2
      go_region
      all_goals go_wp2
      all_goals go_roundg (gk - k)
      case measure => omega
      case rel => exact ⟨m + k, by simp, by omega, by omega, by omega, L3.out⟩
    · obtain rfl : m = n := by omega
      go_wp2
      go_ret
      obtain ⟨cur, hg, hsz, htk⟩ := L.row
      refine ⟨rfl, ⟨rep_length _, .inr ⟨_, _, cur, rfl, Nat.le_refl _, hg, Nat.le_refl _, by unfold maxLen; omega, by omega, htk⟩⟩, L.bel⟩
end Go.Proofs.YtpknggcgojkjgaaGreat.Cn
/-
  CnFloat's law again, where only the sets that are closed under 'dep' are looked at.
-/
namespace Go.Proofs.YtpknggcgojkjgaaGreat.Cn
open Go.RowKit
set_option linter.unusedVariables false
def cls2 (d : List Nat) (dep : Nat → List Nat) : Bool := d.all fun i => (dep i).all d.contains
def chk2 (md : Region.Mode) (ops : Array Oper) (L : Array Bool) (al : List Nat) (dep : Nat → List Nat) : Bool :=
  (subs al).all fun d => !cls2 d dep || (d.length == al.length || (!(Region.ready md ops (setAll L d)).isEmpty && (Region.ready md ops (setAll L d)).all fun i => al.contains i && !d.contains i && (dep i).all d.contains))
section
variable {P : Program} {ops : Array Oper} {Q : Exit → Act → World → Prop} {md : Region.Mode} {S : World → Prop}
theorem wpAnyH_float2 {al : List Nat} {dep : Nat → List Nat} {L : Array Bool} (hnd : al.Nodup) (hchk : chk2 md ops L al dep = true) (A : (Nat → Value) → Act) (Φ : Nat → Value → World → Prop) (G : World → Prop)
    (hstep : ∀ i ∈ al, ∀ (x : Nat → Value) (d : List Nat) (w : World), S w → G w → (∀ j ∈ d, Φ j (x j) w) → (∀ j ∈ dep i, j ∈ d) → ∀ K : Act → World → Prop, (∀ y w', S w' → G w' → (∀ j ∈ d, Φ j (x j) w') → Φ i y w' → K (A (upd x i y)) w') → wpOp P ops Q i K (A x) w)
    {fuel : Nat} (hend : ∀ (x : Nat → Value) (w : World), S w → G w → (∀ j ∈ al, Φ j (x j) w) → wpAnyH P md ops Q S fuel (setAll L al) (A x) w) :
    ∀ (n : Nat) (p : Nat → Bool) (x : Nat → Value) (w : World), n = al.length - (al.filter p).length → cls2 (al.filter p) dep = true → S w → G w → (∀ j ∈ al.filter p, Φ j (x j) w) → wpAnyH P md ops Q S (fuel + n) (setAll L (al.filter p)) (A x) w := by
  intro n
  induction n with
  | zero =>
    intro p x w hn hcl hS hG hΦ
    have hle := List.length_filter_le p al
    have hf := filter_full (p := p) (l := al) (by omega)
    have he : al.filter p = al := List.filter_eq_self.2 hf
    rw [he] at hΦ ⊢
    exact hend x w hS hG hΦ
  | succ n ih =>
    intro p x w hn hcl hS hG hΦ
    have h1 := List.all_eq_true.1 hchk _ (subs_filter p al)
    have hlt : ¬ (al.filter p).length = al.length := by omega
    rw [hcl] at h1
    simp only [Bool.not_true, Bool.false_or, Bool.or_eq_true, beq_iff_eq, hlt, false_or, Bool.and_eq_true, List.all_eq_true] at h1
    refine ⟨fun h0 => by rw [h0] at h1; simp at h1, fun i hi => ?_⟩
    have h2 := h1.2 i hi
    have hia : i ∈ al := by simpa using h2.1.1
    have hid : i ∉ al.filter p := fun hm => by have h3 := h2.1.2; rw [Bool.not_eq_true', List.contains_eq_mem, decide_eq_false_iff_not] at h3; exact h3 hm
    have hde : ∀ j ∈ dep i, j ∈ al.filter p := fun j hj => by simpa using h2.2 j hj
    refine hstep i hia x (al.filter p) w hS hG hΦ hde _ (fun y w' hS' hG' hΦ' hy => ⟨hS', ?_⟩)
    have hpi : p i = false := by
      cases h : p i with
      | false => rfl
      | true => exact absurd (List.mem_filter.2 ⟨hia, h⟩) hid
    have hmem : ∀ k, k ∈ al.filter p ++ [i] ↔ k ∈ al.filter (fun j => p j || decide (j = i)) := by
      intro k
      simp only [List.mem_append, List.mem_filter, List.mem_singleton, Bool.or_eq_true, decide_eq_true_eq]
      constructor
      · rintro (⟨h, h'⟩ | rfl)
        · exact ⟨h, .inl h'⟩
        · exact ⟨hia, .inr rfl⟩
      · rintro ⟨h, h' | h'⟩
        · exact .inl ⟨h, h'⟩
        · exact .inr h'
    rw [setAll_snoc, setAll_ext L hmem]
    refine ih _ (upd x i y) w' ?_ ?_ hS' hG' (fun j hj => ?_)
    · have : (al.filter (fun j => p j || decide (j = i))).length = (al.filter p).length + 1 := by
        clear hcl ih hstep hend hΦ hΦ' h1 h2 hmem hid hde hchk hn hlt hi
        induction al with
        | nil => simp at hia
        | cons a l ihl =>
          have hn2 := List.nodup_cons.1 hnd
          by_cases hai : a = i
          · subst hai
            have : l.filter (fun j => p j || decide (j = a)) = l.filter p := by
              apply List.filter_congr
              intro j hj
              have : j ≠ a := fun e => hn2.1 (e ▸ hj)
              simp [this]
            rw [List.filter_cons_of_pos (by simp), List.filter_cons_of_neg (by simp [hpi]), this]
            rfl
          · have hil : i ∈ l := by
              rcases List.mem_cons.1 hia with e | h
              · exact absurd e.symm hai
              · exact h
            have := ihl hn2.2 hil
            by_cases hpa : p a = true
            · rw [List.filter_cons_of_pos (by simp [hpa]), List.filter_cons_of_pos hpa]; simp [this]
            · rw [List.filter_cons_of_neg (by simp [hpa, hai]), List.filter_cons_of_neg hpa]; exact this
      omega
    · unfold cls2 at hcl ⊢
      rw [List.all_eq_true] at hcl ⊢
      intro k hk
      rw [List.all_eq_true]
      intro j hj
      rw [List.contains_eq_mem, decide_eq_true_eq]
      refine (hmem j).1 (List.mem_append.2 (.inl ?_))
      rcases List.mem_append.1 ((hmem k).2 hk) with h | h
      · have := List.all_eq_true.1 (hcl k h) j hj
        simpa using this
      · simp at h; subst h; exact hde j hj
    · rcases List.mem_append.1 ((hmem j).2 hj) with h | h
      · have hji : j ≠ i := fun e => hid (e ▸ h)
        rw [upd_ne x y hji]; exact hΦ' j h
      · simp at h; subst h; rw [upd_self]; exact hy
/-- From the beginning. -/
theorem wpAnyH_floats2 {al : List Nat} {dep : Nat → List Nat} {L : Array Bool} {n fuel : Nat} (hnd : al.Nodup) (hchk : chk2 md ops L al dep = true) (hn : n = fuel + al.length) (A : (Nat → Value) → Act) (Φ : Nat → Value → World → Prop) (G : World → Prop) (x : Nat → Value) (w : World) (hS : S w) (hG : G w)
    (hstep : ∀ i ∈ al, ∀ (x : Nat → Value) (d : List Nat) (w : World), S w → G w → (∀ j ∈ d, Φ j (x j) w) → (∀ j ∈ dep i, j ∈ d) → ∀ K : Act → World → Prop, (∀ y w', S w' → G w' → (∀ j ∈ d, Φ j (x j) w') → Φ i y w' → K (A (upd x i y)) w') → wpOp P ops Q i K (A x) w)
    (hend : ∀ (x : Nat → Value) (w : World), S w → G w → (∀ j ∈ al, Φ j (x j) w) → wpAnyH P md ops Q S fuel (setAll L al) (A x) w) : wpAnyH P md ops Q S n L (A x) w := by
  have hf : al.filter (fun _ => false) = [] := by simp
  have := wpAnyH_float2 hnd hchk A Φ G hstep hend al.length (fun _ => false) x w (by rw [hf]; simp) (by rw [hf]; rfl) hS hG (by rw [hf]; simp)
  rw [hf] at this
  rw [hn]
  exact this
end
end Go.Proofs.YtpknggcgojkjgaaGreat.Cn
