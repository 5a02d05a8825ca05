import Derived.Test.YtfhkgeoionkonaaGreatDoorJ07
import Derived.ProofKit
import Derived.OpenShut
import Derived.Deep.Slices
import Derived.SizedLaws
import Derived.Test.YtfhkgeoionkonaaGreatDoorJ13
import Derived.Lib.AtoiAllCases
import Derived.Lib.IndexBytes
/-
  SCRIPT: opening a script that came in.
-/
namespace Go.Proofs.YtfhkgeoionkonaaGreatDoor.Sc
open Go.ChangeShapes Go.WideShapes Go.ChangeAt Go.RowKit Go.Deep Mr
set_option linter.unusedVariables false
theorem cells_i64 : Tryz.prog.cellsOf 3 = 1 := by kernel_rfl
theorem cells_op : Tryz.prog.cellsOf 36 = 1 := by kernel_rfl
theorem cells_mv : Tryz.prog.cellsOf 38 = 4 := by kernel_rfl
theorem cells_lm : Tryz.prog.cellsOf 24 = 1 := by kernel_rfl
section
variable {H : Type} {enc : TypeId × Value → H} {w : World} {base : Nat} {spare : Nat → Bool} {held : Bool}
/-- The field number t of a struct whose fields are one cell each. -/
theorem field_int {n : Nat} {ty : TypeId} {fs : Array Field} {cs : List Value} {x : DataW H × List MemPlace} (hs : Tryz.prog.underlying ty = some (.struct fs)) (h : DataW.trod enc Tryz.prog w base spare held n ty cs = some x) (t : Nat) (f : Field) (k : IntKind) (hf : fs[t]? = some f) (ho : f.offset = t) (hc : Tryz.prog.cellsOf f.type = 1) (hk : Tryz.prog.underlying f.type = some (.int k)) :
    ∃ z, cs[t]? = some (Value.int k z) ∧ (Lit.int k z).wf = true := by
  obtain ⟨xs, m, _, _, hl, hxl, hx⟩ := DataW.trod_struct hs h
  have q := hx t f hf
  rw [ho, hc] at q
  have ht : t < fs.size := (Array.getElem?_eq_some_iff.1 hf).1
  rw [List.getElem?_eq_getElem (by omega)] at q
  obtain ⟨z, hz, _, hwf⟩ := DataW.trod_int hk q
  refine ⟨z, ?_, hwf⟩
  have : ((cs.drop t).take 1)[0]? = some (.int k z) := by rw [hz]; rfl
  rw [List.getElem?_take] at this
  simpa using this
theorem add_add (a : Addr) (i j : Nat) (v : Value) (h : w.cell? ((a.add i).add j) = some v) (ha : a.spot = none) : w.cell? ⟨a.block, a.off + i + j, none⟩ = some v := by
  obtain ⟨b, o, s⟩ := a
  simp at ha
  subst ha
  have e1 : ∀ (o i : Nat), (⟨b, o, none⟩ : Addr).add i = ⟨b, o + i, none⟩ := fun o i => by unfold Addr.add; split <;> simp_all
  rw [e1, e1] at h
  exact h
theorem spot_of {a : Addr} {i j : Nat} {v : Value} (h : w.cell? ((a.add i).add j) = some v) (ha : i = 0) (hj : j = 0) : a.spot = none := by
  subst ha; subst hj
  have := World.cell?_spot h
  simpa [Addr.add] using this
theorem open_mvs {fuel : Nat} {cs : List Value} {x : DataW H × List MemPlace} (hf : DataW.trod enc Tryz.prog w base spare held fuel 24 cs = some x) :
    ∃ a n cap ms, cs = [.slice a n cap] ∧ MvAt w a n ms ∧ n ≤ cap ∧ ∀ m ∈ ms, MvB m := by
  rcases open_slice Tryz.underlying24 hf with ⟨hc, hx⟩ | ⟨ad, n, cap, m, k, D, Pl, hc, _, hl, _, hm, hx, hel⟩
  · exact ⟨none, 0, 0, [], hc, ⟨rfl, .inl rfl⟩, Nat.le_refl _, by simp⟩
  · have hle : n ≤ m := by rw [hm]; split <;> omega
    have each : ∀ i, i < n → ∃ o : Mv, w.cell? ((ad.add (i * 4)).add 0) = some (.int .i64 o.th) ∧ w.cell? ((ad.add (i * 4)).add 1) = some (.int .i64 o.op) ∧ w.cell? ((ad.add (i * 4)).add 2) = some (.int .i64 o.arg) ∧ w.cell? ((ad.add (i * 4)).add 3) = some (.int .i64 o.data) ∧ MvB o := by
      intro i hi
      obtain ⟨cs, h1, h2⟩ := hel i (by omega)
      rw [cells_mv] at h1
      obtain ⟨_, hcl, hce⟩ := World.cells?_some h1
      obtain ⟨z0, e0, v0⟩ := field_int Tryz.underlying38 h2 0 _ .i64 rfl rfl cells_i64 Tryz.underlying3
      obtain ⟨z1, e1, v1⟩ := field_int Tryz.underlying38 h2 1 _ .i64 rfl rfl cells_op Tryz.underlying36
      obtain ⟨z2, e2, v2⟩ := field_int Tryz.underlying38 h2 2 _ .i64 rfl rfl cells_i64 Tryz.underlying3
      obtain ⟨z3, e3, v3⟩ := field_int Tryz.underlying38 h2 3 _ .i64 rfl rfl cells_i64 Tryz.underlying3
      exact ⟨⟨z0, z1, z2, z3⟩, (hce 0 (by omega)).trans e0, (hce 1 (by omega)).trans e1, (hce 2 (by omega)).trans e2, (hce 3 (by omega)).trans e3, ⟨bounds_i64 v0, bounds_i64 v1, bounds_i64 v2, bounds_i64 v3⟩⟩
    obtain ⟨f, hf'⟩ := Classical.axiomOfChoice (fun i => (if h : i < n then (by obtain ⟨o, ho⟩ := each i h; exact ⟨o, fun _ => ho⟩) else ⟨noMv, fun h' => absurd h' h⟩ : ∃ o : Mv, i < n → w.cell? ((ad.add (i * 4)).add 0) = some (.int .i64 o.th) ∧ w.cell? ((ad.add (i * 4)).add 1) = some (.int .i64 o.op) ∧ w.cell? ((ad.add (i * 4)).add 2) = some (.int .i64 o.arg) ∧ w.cell? ((ad.add (i * 4)).add 3) = some (.int .i64 o.data) ∧ MvB o))
    have hlen : ((List.range n).map f).length = n := by simp
    refine ⟨some ad, n, cap, (List.range n).map f, hc, ⟨hlen.symm, ?_⟩, hl, fun m hm => by obtain ⟨j, hj, rfl⟩ := List.mem_map.1 hm; exact (hf' j (List.mem_range.1 hj)).2.2.2.2⟩
    by_cases hn : n = 0
    · subst hn; exact .inl rfl
    · have hsp : ad.spot = none := spot_of (hf' 0 (by omega)).1 (by omega) rfl
      refine .inr ⟨ad.block, ad.off, by obtain ⟨_, _, s⟩ := ad; simp at hsp; subst hsp; rfl, ?_, fun j hj => ?_⟩
      · have := World.block_lt_of_cell? w _ (hf' 0 (by omega)).1
        rwa [blk_add, blk_add] at this
      · rw [hlen] at hj
        obtain ⟨c0, c1, c2, c3, -⟩ := hf' j hj
        have eo : ((List.range n).map f)[j]?.getD noMv = f j := by simp [hj]
        rw [eo]
        exact ⟨add_add ad (j * 4) 0 _ c0 hsp, add_add ad (j * 4) 1 _ c1 hsp, add_add ad (j * 4) 2 _ c2 hsp, add_add ad (j * 4) 3 _ c3 hsp⟩
end
set_option maxRecDepth 100000 in
theorem open_mvl {H : Type} {enc : TypeId × Value → H} {w : World} {base : Nat} {spare : Nat → Bool} {held : Bool} {r : Reach} {b0 : Nat} {v : Value} {d : DataW H} {p : List MemPlace} (hv : Value.okWide Tryz.prog w r b0 24 v) (h : DataW.Trod enc Tryz.prog w base spare held 24 v d p) :
    ∃ a n cap ms, v = .slice a n cap ∧ MvAt w a n ms ∧ n ≤ cap ∧ ∀ m ∈ ms, MvB m := by
  obtain ⟨a, n, cap, rfl⟩ := okWide_slice Tryz.underlying24 hv
  obtain ⟨fuel, hf⟩ := h
  obtain ⟨a', n', cap', ms, hc, hm, hn, hb⟩ := open_mvs hf
  simp [Value.cells] at hc
  obtain ⟨rfl, rfl, rfl⟩ := hc
  exact ⟨_, _, _, ms, rfl, hm, hn, hb⟩
end Go.Proofs.YtfhkgeoionkonaaGreatDoor.Sc
/-
  SCRIPT, pure: numerals there and back, their words; cuts at a newline.
-/
namespace Go.Proofs.YtfhkgeoionkonaaGreatDoor.Sc
open Go.RowKit
open Go.Lib (parseUint10 parseMag atoiAll decDigits itoa)
set_option linter.unusedVariables false
set_option linter.unusedSimpArgs false
theorem pu_snoc (c : UInt8) (hc : 48 ≤ c.toNat ∧ c.toNat ≤ 57) : ∀ (l : List UInt8) (acc a : Nat), parseUint10 acc l = .ok a → a * 10 + (c.toNat - 48) < 18446744073709551616 → parseUint10 acc (l ++ [c]) = .ok (a * 10 + (c.toNat - 48))
  | [], acc, a, h, hb => by
    simp only [parseUint10] at h
    injection h with h
    subst h
    show parseUint10 acc [c] = _
    simp only [parseUint10]
    rw [if_pos hc, if_neg (by omega), if_neg (by omega)]
  | x :: r, acc, a, h, hb => by
    simp only [parseUint10] at h
    show parseUint10 acc (x :: (r ++ [c])) = _
    simp only [parseUint10]
    split at h
    · rename_i h1
      rw [if_pos h1]
      split at h
      · cases h
      · rename_i h2
        rw [if_neg h2]
        split at h
        · cases h
        · rename_i h3
          rw [if_neg h3]
          exact pu_snoc c hc r _ a h hb
    · cases h
theorem dig_nat (d : Nat) (h : d < 10) : (UInt8.ofNat (48 + d)).toNat = 48 + d := by
  rw [UInt8.toNat_ofNat']; omega
theorem dec_digs (u : Nat) : ∀ b ∈ decDigits u, 48 ≤ b.toNat ∧ b.toNat ≤ 57 := by
  induction u using Nat.strongRecOn with
  | _ u ih =>
    by_cases h : u < 10
    · rw [Lib.decDigits_one h]
      intro b hb
      rw [List.mem_singleton] at hb
      subst hb
      rw [dig_nat u h]; omega
    · rw [decDigits, dif_neg h]
      intro b hb
      rcases List.mem_append.1 hb with hb | hb
      · exact ih (u / 10) (by omega) b hb
      · rw [List.mem_singleton] at hb
        subst hb
        rw [dig_nat (u % 10) (by omega)]; omega
theorem dec_ne (u : Nat) : decDigits u ≠ [] := by
  intro h
  have := congrArg List.length h
  rw [Lib.decDigits_length] at this
  have := Lib.nDigits_pos u
  simp at *
  omega
theorem pu_dec (u : Nat) (h : u < 18446744073709551616) : parseUint10 0 (decDigits u) = .ok u := by
  induction u using Nat.strongRecOn with
  | _ u ih =>
    by_cases h1 : u < 10
    · rw [Lib.decDigits_one h1]
      have := pu_snoc (UInt8.ofNat (48 + u)) (by rw [dig_nat u h1]; omega) [] 0 0 rfl (by rw [dig_nat u h1]; omega)
      rw [dig_nat u h1] at this
      rw [show u = 0 * 10 + (48 + u - 48) by omega]
      rw [show 0 * 10 + (48 + u - 48) = u by omega] at *
      simpa using this
    · rw [decDigits, dif_neg h1]
      have := pu_snoc (UInt8.ofNat (48 + u % 10)) (by rw [dig_nat (u % 10) (by omega)]; omega) _ 0 (u / 10) (ih (u / 10) (by omega) (by omega)) (by rw [dig_nat (u % 10) (by omega)]; omega)
      rw [dig_nat (u % 10) (by omega)] at this
      rw [this]
      congr 1
      omega
theorem mag_dec (u : Nat) (h : u < 18446744073709551616) : parseMag (decDigits u) = .ok u := by
  unfold parseMag
  rw [if_neg (dec_ne u)]
  exact pu_dec u h
theorem all_dec (u : Nat) (h : u < 9223372036854775808) : atoiAll (decDigits u) = .ok (u : Int) := by
  cases e : decDigits u with
  | nil => exact absurd e (dec_ne u)
  | cons c r =>
    have hd := dec_digs u c (by rw [e]; exact List.mem_cons_self)
    rw [Lib.atoiAll_plain c r (by omega) (by omega), ← e, mag_dec u (by omega)]
    simp only [Lib.signless]
    rw [if_neg (by omega)]
theorem ib_no (c : UInt8) : ∀ (l : List UInt8), (∀ b ∈ l, b ≠ c) → Lib.indexByte l c = -1
  | [], _ => rfl
  | x :: r, h => by
    have h1 := ib_no c r (fun b hb => h b (List.mem_cons_of_mem _ hb))
    have h2 : x ≠ c := h x List.mem_cons_self
    simp [Lib.indexByte, h1, h2]
theorem ib_at (c : UInt8) (r : List UInt8) : ∀ (l : List UInt8), (∀ b ∈ l, b ≠ c) → Lib.indexByte (l ++ c :: r) c = l.length
  | [], _ => by simp [Lib.indexByte]
  | x :: t, h => by
    have h1 := ib_at c r t (fun b hb => h b (List.mem_cons_of_mem _ hb))
    have h2 : x ≠ c := h x List.mem_cons_self
    rw [List.cons_append]
    simp [Lib.indexByte, h1, h2]
theorem itoa_cases (n : Int) (h : Bd n) : (∃ u : Nat, u < 9223372036854775808 ∧ n = u ∧ itoa n = decDigits u) ∨ ∃ u : Nat, 1 ≤ u ∧ u ≤ 9223372036854775808 ∧ n = -(u : Int) ∧ itoa n = 45 :: decDigits u := by
  unfold Bd at h
  by_cases h0 : 0 ≤ n
  · obtain ⟨u, rfl⟩ : ∃ u : Nat, n = u := ⟨n.toNat, by omega⟩
    exact .inl ⟨u, by omega, rfl, Lib.itoa_nonneg u⟩
  · obtain ⟨u, rfl⟩ : ∃ u : Nat, n = -(u : Int) := ⟨n.natAbs, by omega⟩
    exact .inr ⟨u, by omega, by omega, rfl, Lib.itoa_neg u (by omega)⟩
theorem itoa_bytes (n : Int) (h : Bd n) : ∀ b ∈ itoa n, (48 ≤ b.toNat ∧ b.toNat ≤ 57) ∨ b = 45 := by
  intro b hb
  rcases itoa_cases n h with ⟨u, _, _, e⟩ | ⟨u, _, _, _, e⟩
  · rw [e] at hb; exact .inl (dec_digs u b hb)
  · rw [e] at hb
    rcases List.mem_cons.1 hb with rfl | hb
    · exact .inr rfl
    · exact .inl (dec_digs u b hb)
theorem itoa_byte_ne (n : Int) (h : Bd n) (c : UInt8) (hc : c.toNat < 45) : ∀ b ∈ itoa n, b ≠ c := by
  intro b hb e
  subst e
  rcases itoa_bytes n h b hb with h | h
  · omega
  · rw [h] at hc; exact absurd hc (by decide)
theorem gw_itoa (n : Int) (h : Bd n) : Gw (itoa n) := by
  refine ⟨?_, ?_, ?_⟩
  · rcases itoa_cases n h with ⟨u, _, _, e⟩ | ⟨u, _, _, _, e⟩
    · rw [e]; exact dec_ne u
    · rw [e]; simp
  · intro c hc
    unfold bl
    rw [beq_eq_false_iff_ne.2 (itoa_byte_ne n h 32 (by decide) c hc), beq_eq_false_iff_ne.2 (itoa_byte_ne n h 9 (by decide) c hc), beq_eq_false_iff_ne.2 (itoa_byte_ne n h 13 (by decide) c hc)]
    rfl
  · intro e
    cases hl : itoa n with
    | nil => rw [hl] at e; cases e
    | cons c r =>
      rw [hl] at e
      simp at e
      exact itoa_byte_ne n h 35 (by decide) c (by rw [hl]; exact List.mem_cons_self ..) e
theorem numLike_itoa (n : Int) (h : Bd n) : numLike (itoa n) = true := by
  have key : ∀ u, ∃ c r, decDigits u = c :: r ∧ (decide (48 ≤ c.toNat) && decide (c.toNat ≤ 57)) = true ∧ c ≠ 45 := by
    intro u
    cases hd : decDigits u with
    | nil => exact absurd hd (dec_ne u)
    | cons c r =>
      have := dec_digs u c (by rw [hd]; exact List.mem_cons_self ..)
      refine ⟨c, r, rfl, by simp [this], fun e => ?_⟩
      rw [e] at this
      exact absurd this (by decide)
  unfold numLike Lib.trimPrefix Lib.hasPrefix
  rcases itoa_cases n h with ⟨u, _, _, e⟩ | ⟨u, _, _, _, e⟩
  · obtain ⟨c, r, hd, h1, h2⟩ := key u
    rw [e, hd]
    have : (([45] : List UInt8).isPrefixOf (c :: r)) = false := by simp [List.isPrefixOf]; exact fun e => h2 e.symm
    simp only [this]
    simpa using h1
  · obtain ⟨c, r, hd, h1, h2⟩ := key u
    rw [e, hd]
    have : (([45] : List UInt8).isPrefixOf (45 :: c :: r)) = true := by simp [List.isPrefixOf]
    simp only [this]
    simpa using h1
theorem all_itoa (n : Int) (h : Bd n) : atoiAll (itoa n) = .ok n := by
  rcases itoa_cases n h with ⟨u, hu, rfl, e⟩ | ⟨u, h1, h2, rfl, e⟩
  · rw [e]; exact all_dec u hu
  · rw [e, Lib.atoiAll_minus, mag_dec u (by omega)]
    unfold Lib.signed
    simp
    try omega
theorem numOk_itoa (n : Int) (h : Bd n) : numOk (itoa n) = some n := by
  unfold numOk
  rw [all_itoa n h]
  simp
theorem numV_itoa (n : Int) (h : Bd n) : numV (itoa n) = n := by unfold numV; rw [numOk_itoa n h]; rfl
theorem nrm_itoa (n : Int) (h : Bd n) : nrm (itoa n) = [48] := by unfold nrm; rw [if_pos (numLike_itoa n h)]
/-- A line, and what is behind it. -/
theorem cut_nl (a b : List UInt8) (h : ∀ x ∈ a, x ≠ 10) : Lib.cut (a ++ 10 :: b) [10] = (a, b, true) := by
  have e : Lib.index (a ++ 10 :: b) [10] = a.length := by rw [Lib.index_one]; exact ib_at 10 b a h
  unfold Lib.cut
  rw [e, if_pos (by omega)]
  simp
end Go.Proofs.YtfhkgeoionkonaaGreatDoor.Sc
