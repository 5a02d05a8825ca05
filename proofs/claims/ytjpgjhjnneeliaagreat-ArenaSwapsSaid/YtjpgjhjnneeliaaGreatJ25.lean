import Derived.Test.YtjpgjhjnneeliaaGreatJ24
import Derived.Test.YtjpgjhjnneeliaaGreatJ11
import Derived.RangeFuncNested
/-
  THE MACHINE WITH AN ARENA: Machine.begin and Machine.Move by the arena without the model.
-/
namespace Go.Proofs.YtjpgjhjnneeliaaGreat.Ar
open Go.RowKit Mr Me Ma Wc Wm
section
variable {W : World} {U K : Nat → Prop} {f : Fx} {h : Wh} {P : Pa} {i : Nat} {t : At}
theorem Ktr.alloc {km ca ba : Nat} (h : Ktr W K km ca ba) (hl : ∀ k, K k → k < W.heap.size) (o : Obj) : Ktr (W.alloc o) K km ca ba := h.kept (fun k hk => Below.heap_alloc _ _ _ (hl k hk))
theorem begins_some {tk : Kd × Pk} {op arg data now : Int} (hm : P.maker i op arg = some tk) : P.begins i op arg data now = ({ P with cls := P.cls ++ [⟨i, op, arg, data, now, -1, -1, 0, 0⟩], pts := P.pts.set i ⟨some tk, true, (P.cls.length : Int)⟩ }, true) := by simp [Pa.begins, hm]
theorem begins_none {op arg data now : Int} (hm : P.maker i op arg = none) : P.begins i op arg data now = (P, false) := by simp [Pa.begins, hm]
set_option maxHeartbeats 1000000 in
theorem begin_arena (hR : RA W U K f h P) {b : Nat} (hI : Inv P b) (hb : b < 65536) (hn : P.n = b + 1) (hsl : 0 < P.A.sl.length) (ht : P.pts[i]? = some t) (op arg data now : Int) :
    Calls Tryz.prog 33 #[.pointer (some ⟨f.q.b, 0, none⟩), .agg #[.int .i64 (i : Int), .int .i64 op, .int .i64 arg, .int .i64 data], .int .i64 now] W fun e w' => e = .returned (.bool (P.begins i op arg data now).2) ∧ OutA W U K f (P.begins i op arg data now).1 w' := by
  have hi : i < P.pts.length := (List.getElem?_eq_some_iff.1 ht).1
  have hths : (h.ss P).ths[i]? = some (t.th (h.bc i) (h.bt i)) := by
    show (thsA P.pts h.bc h.bt)[i]? = _
    rw [thsA_get, ht]; rfl
  have hcr : (h.ss P).cls.length ≤ 100000 := by have := hI.cls; have := hI.bd; show P.cls.length ≤ 100000; omega
  have hKl : ∀ k, K k → k < W.heap.size := fun k hk => (hR.ku k hk).2
  -- the world of the look-up, and that of the maker
  have hsV : (W.alloc (mvO i op arg data)).drew.heap.size = W.heap.size + 1 := by simp
  have hBV : Below W.heap.size W (W.alloc (mvO i op arg data)).drew := ((Below.refl _ _).alloc (Nat.le_refl _) _).drew
  have kV : Ktr (W.alloc (mvO i op arg data)).drew K f.km f.ca f.ba := hR.kt.kept (fun k hk => hBV.block k (hKl k hk))
  have aV : Ar (W.alloc (mvO i op arg data)).drew h.T f.ba f.gs f.cs f.c f.vca h.vsl P.A := hR.ar.kept (fun k hk => hBV.block k (hR.tl k hk)) (fun _ h => h)
  have lV : ∀ k, h.T k → k < (W.alloc (mvO i op arg data)).drew.heap.size := fun k hk => by rw [hsV]; have := hR.tl k hk; omega
  have klV : ∀ k, K k → k < (W.alloc (mvO i op arg data)).drew.heap.size := fun k hk => by rw [hsV]; have := hKl k hk; omega
  generalize hV : (W.alloc (mvO i op arg data)).drew = V at *
  have hsM : (V.alloc (mvO i op arg data)).heap.size = W.heap.size + 1 + 1 := by simp [hsV]
  have kM := kV.alloc klV (mvO i op arg data)
  have aM := aV.alloc lV (mvO i op arg data)
  have lM : ∀ k, h.T k → k < (V.alloc (mvO i op arg data)).heap.size := fun k hk => by rw [hsM]; have := hR.tl k hk; omega
  have L : ∀ o, (Instr.lookup 77 (.map (some f.km)) (.int .i64 op) false).run Tryz.prog (V.alloc o) = .ok (mkr f.ca op) (V.alloc o) := fun o => (kV.alloc klV o).look op
  have bM : ∀ w, Below (V.alloc (mvO i op arg data)).heap.size (V.alloc (mvO i op arg data)) w → Below (W.heap.size + 1) V w := fun w hB => by
    rw [← hsV]
    exact ((Below.refl _ _).alloc (Nat.le_refl _) _).trans (hB.mono (by simp))
  have inv' := hI.begins hb ht op arg data now
  have NONE : P.maker i op arg = none → (Calls Tryz.prog 60 #[.map (some f.km), .agg #[.int .i64 (i : Int), .int .i64 op, .int .i64 arg, .int .i64 data]] V fun e w' => e = .returned .nilIface ∧ Below (W.heap.size + 1) V w') → Calls Tryz.prog 33 #[.pointer (some ⟨f.q.b, 0, none⟩), .agg #[.int .i64 (i : Int), .int .i64 op, .int .i64 arg, .int .i64 data], .int .i64 now] W fun e w' => e = .returned (.bool (P.begins i op arg data now).2) ∧ OutA W U K f (P.begins i op arg data now).1 w' := fun hm KB => by
    rw [begins_none hm]
    refine (machBegin_none (q := f.at h) hR.mch i op arg data now f.km hR.vk (by show Calls Tryz.prog 60 #[f.q.vk, _] _ _; rw [hR.vk, hV]; exact KB)).mono ?_
    rintro e w' ⟨rfl, hB⟩
    exact ⟨rfl, OutA.same hR hB⟩
  have SOME : ∀ (tk : Kd × Pk) (bcn btn : Nat) (N : Nat → Obj → Prop), P.maker i op arg = some tk → (∀ k o, N k o → W.heap.size ≤ k) → (∀ k, own bcn btn (some tk) k → ∃ o, N k o) → (∀ (w : World) (T' : Nat → Prop), (∀ k o, N k o → w.heap[k]? = some o) → (∀ k, own bcn btn (some tk) k → T' k) → Tob w T' f.ba i bcn btn (some tk)) →
      (∃ ty x, tkV bcn btn (some tk) = .iface ty x) → (Calls Tryz.prog 60 #[.map (some f.km), .agg #[.int .i64 (i : Int), .int .i64 op, .int .i64 arg, .int .i64 data]] V fun e w' => e = .returned (tkV bcn btn (some tk)) ∧ Below (W.heap.size + 1) V w' ∧ ∀ k o, N k o → w'.heap[k]? = some o) →
      Calls Tryz.prog 33 #[.pointer (some ⟨f.q.b, 0, none⟩), .agg #[.int .i64 (i : Int), .int .i64 op, .int .i64 arg, .int .i64 data], .int .i64 now] W fun e w' => e = .returned (.bool (P.begins i op arg data now).2) ∧ OutA W U K f (P.begins i op arg data now).1 w' := fun tk bcn btn N hm hNl hNk hob htv KB => by
    obtain ⟨ty, x, htv⟩ := htv
    rw [begins_some hm] at inv' ⊢
    rw [htv] at KB
    refine (machBegin_any (q := f.at h) hR.mch hcr i _ hths op arg data now ty x f.km hR.vk (Z := fun N' _ => N' = N) (by
      show Calls Tryz.prog 60 #[f.q.vk, _] _ _
      rw [hR.vk, hV]
      refine KB.mono ?_
      rintro e w' ⟨rfl, g1, g2⟩
      exact ⟨rfl, g1, N, fun k o ho => ⟨hNl k o ho, g2 k o ho⟩, rfl⟩)).mono ?_
    rintro e w' ⟨rfl, vc', N', w2, hg, rfl⟩
    refine ⟨rfl, OutA.begun (tk' := tk) (bcn := bcn) (btn := btn) hR hg ?_ rfl rfl rfl rfl rfl hR.ah (P.cls.length : Int) rfl rfl rfl rfl (by have := inv'; rw [← hn] at this; exact this) hNl hNk hob⟩
    have := thsA_new P.pts h.bc h.bt i ⟨some tk, true, (P.cls.length : Int)⟩ bcn btn
    rw [← this]
    simp only [At.th, htv]
    rfl
  by_cases h1 : op = 10
  · have hmk : mkr f.ca op = .func (.func 46) #[] #[.pointer (some ⟨f.ca, 0, none⟩)] := by simp [mkr, h1]
    rw [hmk] at L
    have hm : P.maker i op arg = some (.take, ⟨1, 0, 0, 0, false⟩) := by simp [Pa.maker, h1]
    have C := kit1_any aM lM hsl kM.c i op arg data
    rw [hsM] at C
    refine SOME _ (W.heap.size + 1 + 1 + 1 + 1) (W.heap.size + 1 + 1 + 1) (fun k o => (k = W.heap.size + 1 + 1 + 1 ∧ o = tkO f.ba i) ∨ (k = W.heap.size + 1 + 1 + 1 + 1 ∧ o = tcO (W.heap.size + 1 + 1 + 1))) hm ?_ ?_ ?_ ⟨_, _, rfl⟩ ?_
    · rintro k o (⟨rfl, _⟩ | ⟨rfl, _⟩) <;> omega
    · rintro k (rfl | rfl)
      · exact ⟨_, .inr ⟨rfl, rfl⟩⟩
      · exact ⟨_, .inl ⟨rfl, rfl⟩⟩
    · intro w T' hw hT'
      exact ⟨hT' _ (.inl rfl), hT' _ (.inr rfl), by omega, hw _ _ (.inr ⟨rfl, rfl⟩), hw _ _ (.inl ⟨rfl, rfl⟩)⟩
    · refine kit_call (W := V) i op arg data L (enters_of Tryz.func46 (by kernel_rfl) rfl) (C.mono ?_)
      rintro e w' ⟨rfl, g1, g2, g3⟩
      refine ⟨rfl, bM _ (by rw [hsM]; exact g1), ?_⟩
      rintro k o (⟨rfl, rfl⟩ | ⟨rfl, rfl⟩)
      · exact g2
      · exact g3
  · by_cases h2 : op = 11
    · have hmk : mkr f.ca op = .func (.func 48) #[] #[.pointer (some ⟨f.ca, 0, none⟩)] := by simp [mkr, h2]
      rw [hmk] at L
      by_cases ho : P.A.has arg ∧ P.A.st arg = (2, (i : Int))
      · have hm : P.maker i op arg = some (.give, ⟨2, arg, 0, 0, false⟩) := by simp [Pa.maker, h2, ho]
        have C := kit2_yes aM lM kM.c i (by rw [hI.kc]; exact hi) op arg data ho
        rw [hsM] at C
        refine SOME _ 0 (W.heap.size + 1 + 1 + 1 + 1 + 1) (fun k o => k = W.heap.size + 1 + 1 + 1 + 1 + 1 ∧ o = gvO f.ba i arg) hm ?_ ?_ ?_ ⟨_, _, rfl⟩ ?_
        · rintro k o ⟨rfl, _⟩; omega
        · intro k hk
          exact ⟨_, hk, rfl⟩
        · intro w T' hw hT'
          exact ⟨hT' _ rfl, hw _ _ ⟨rfl, rfl⟩⟩
        · refine kit_call (W := V) i op arg data L (enters_of Tryz.func48 (by kernel_rfl) rfl) (C.mono ?_)
          rintro e w' ⟨rfl, g1, g2⟩
          refine ⟨rfl, bM _ (by rw [hsM]; exact g1), ?_⟩
          rintro k o ⟨rfl, rfl⟩
          exact g2
      · have hm : P.maker i op arg = none := by simp [Pa.maker, h2, ho]
        have C := kit2_no aM lM kM.c i op arg data ho
        rw [hsM] at C
        refine NONE hm (kit_call (W := V) i op arg data L (enters_of Tryz.func48 (by kernel_rfl) rfl) (C.mono ?_))
        rintro e w' ⟨rfl, g1⟩
        exact ⟨rfl, bM _ (by rw [hsM]; exact g1)⟩
    · by_cases h3 : op = 12
      · have hmk : mkr f.ca op = .func (.func 51) #[] #[.pointer (some ⟨f.ca, 0, none⟩)] := by simp [mkr, h3]
        rw [hmk] at L
        have hm : P.maker i op arg = some (.flush, ⟨3, 0, 0, 0, false⟩) := by simp [Pa.maker, h3]
        have C := kit3_any kM.c i op arg data
        rw [hsM] at C
        refine SOME _ 0 (W.heap.size + 1 + 1 + 1 + 1) (fun k o => k = W.heap.size + 1 + 1 + 1 + 1 ∧ o = flO f.ba i) hm ?_ ?_ ?_ ⟨_, _, rfl⟩ ?_
        · rintro k o ⟨rfl, _⟩; omega
        · intro k hk
          exact ⟨_, hk, rfl⟩
        · intro w T' hw hT'
          exact ⟨hT' _ rfl, hw _ _ ⟨rfl, rfl⟩⟩
        · refine kit_call (W := V) i op arg data L (enters_of Tryz.func51 (by kernel_rfl) rfl) (C.mono ?_)
          rintro e w' ⟨rfl, g1, g2⟩
          refine ⟨rfl, bM _ (by rw [hsM]; exact g1), ?_⟩
          rintro k o ⟨rfl, rfl⟩
          exact g2
      · have hmk : mkr f.ca op = .nilFunc := by simp [mkr, h1, h2, h3]
        rw [hmk] at L
        have hm : P.maker i op arg = none := by simp [Pa.maker, h1, h2, h3]
        refine NONE hm ((kit_none (W := V) i op arg data L).mono ?_)
        rintro e w' ⟨rfl, rfl⟩
        exact ⟨rfl, bM _ (Below.refl _ _)⟩
/-- Nothing but the count. -/
theorem RA.counted (hR : RA W U K f h P) (hn : P.n < 65536) (o : Obj) : RA (Wn W f.q.b ((P.n : Int) + 1) o) U K f h P.count ∧ Fr W (Wn W f.q.b ((P.n : Int) + 1) o) U ∧ W.heap.size < (Wn W f.q.b ((P.n : Int) + 1) o).heap.size := by
  obtain ⟨h1, h2, h3⟩ := hR.mch.setN ((P.n : Int) + 1) o
  have hl : ∀ k, k < W.heap.size → k ≠ f.q.b → (Wn W f.q.b ((P.n : Int) + 1) o).heap[k]? = W.heap[k]? := fun k hk hne => (Below.heap_alloc _ _ _ (by simpa using hk)).trans (Below.heap_setCell _ _ _ k hne)
  have tb : ∀ k, h.T k → k ≠ f.q.b := fun k hk => (hR.mch.1 k _ ⟨hk, Array.getElem?_eq_getElem (hR.tl k hk)⟩).2.2.2.1
  have kT : ∀ k, h.T k → (Wn W f.q.b ((P.n : Int) + 1) o).heap[k]? = W.heap[k]? := fun k hk => hl k (hR.tl k hk) (tb k hk)
  have kb : ∀ k, K k → k ≠ f.q.b := fun k hk e => (hR.ku k hk).1 (e ▸ hR.mch.2.ub.1)
  refine ⟨⟨?_, fun k hk => Nat.lt_trans (hR.tl k hk) h3, hR.ar.kept kT (fun _ h => h), fun i t ht => (hR.tob i t ht).kept (fun k hk _ => kT k hk) (fun _ h => h), hR.dj, hR.ah, hR.kt.kept (fun k hk => hl k (hR.ku k hk).2 (kb k hk)), fun k hk => ⟨(hR.ku k hk).1, Nat.lt_trans (hR.ku k hk).2 h3⟩, hR.inv.count.mono (Nat.le_succ _) (by show P.n + 1 ≤ 65536; omega), hR.m, hR.ck, hR.K, hR.vk⟩, h2, h3⟩
  have e : h.ss P.count = { h.ss P with n := (P.n : Int) + 1 } := by simp [Wh.ss, Pa.count]
  rw [e]
  exact ⟨fun k o ho => h1.1 k o ⟨ho.1, (kT k ho.1).symm.trans ho.2⟩, h1.2⟩
theorem OutA.from {W1 w : World} {P' : Pa} (hf : Fr W W1 U) (ho : OutA W1 U K f P' w) : OutA W U K f P' w := by
  obtain ⟨U', h', g1, g2, g3, g4⟩ := ho
  exact ⟨U', h', g1, g2, fun k hk => (g3 k hk).imp id (fun h => Nat.le_trans hf.size h), hf.trans (g4.mono (fun _ => .inl))⟩
theorem move_arena (hR : RA W U K f h P) (hsl : 0 < P.A.sl.length) (th op arg data : Int) :
    Calls Tryz.prog 15 #[.pointer (some ⟨f.q.b, 0, none⟩), .agg #[.int .i64 th, .int .i64 op, .int .i64 arg, .int .i64 data]] W fun e w' => e = .returned (.bool (P.move th op arg data).2) ∧ OutA W U K f (P.move th op arg data).1 w' := by
  have hM := hR.mch
  by_cases hfull : 65536 ≤ P.n
  · have e : P.move th op arg data = (P, false) := by simp [Pa.move, hfull]
    rw [e]
    refine (mv_full (q := f.at h) th op arg data hM (by show (65536 : Int) ≤ (P.n : Int); omega)).mono ?_
    rintro e w' ⟨rfl, hB⟩
    exact ⟨rfl, OutA.same hR hB⟩
  have hn : P.n < 65536 := by omega
  have hnI : ((h.ss P).n) < 65536 := by show (P.n : Int) < 65536; omega
  have hn0 : 0 ≤ (h.ss P).n := by show (0 : Int) ≤ (P.n : Int); omega
  have hnt : P.pts.length = f.q.nt := by rw [← thsA_length P.pts h.bc h.bt]; exact hM.nt
  by_cases hin : 0 ≤ th ∧ th < P.pts.length
  · obtain ⟨i, rfl⟩ : ∃ i : Nat, th = i := ⟨th.toNat, by omega⟩
    have hil : i < P.pts.length := by omega
    obtain ⟨t, ht⟩ : ∃ t, P.pts[i]? = some t := ⟨_, List.getElem?_eq_getElem hil⟩
    have hths : (h.ss P).ths[i]? = some (t.th (h.bc i) (h.bt i)) := by
      show (thsA P.pts h.bc h.bt)[i]? = _
      rw [thsA_get, ht]; rfl
    have em : P.move i op arg data = if op = 0 then P.count.step i t P.n else if t.tk.isSome = true then (P.count, false) else P.count.begins i op arg data P.n := by
      unfold Pa.move
      rw [if_neg hfull, if_pos hin, Int.toNat_natCast, ht]
    rw [em]
    obtain ⟨hRc, hfc, hsc⟩ := hR.counted hn (mvO i op arg data)
    have hnc : P.count.n = P.n + 1 := rfl
    by_cases hop : op = 0
    · subst hop
      rw [if_pos rfl]
      cases hb : t.tk with
      | none =>
        have e : P.count.step i t P.n = (P.count, false) := by simp [Pa.step, hb]
        rw [e]
        have htv : (t.th (h.bc i) (h.bt i)).tv = .nilIface := by simp [At.th, hb, tkV]
        refine (mv_step (q := f.at h) hM hnI hn0 i _ hths arg data (R := fun w' => w' = Wn W f.q.b ((P.n : Int) + 1) (mvO i 0 arg data)) (step_idle (hM.setN ((P.n : Int) + 1) (mvO i 0 arg data)).1 i _ hths htv _)).mono ?_
        rintro e w' ⟨rfl, rfl⟩
        exact ⟨rfl, OutA.from hfc (OutA.same hRc (Below.refl _ _))⟩
      | some kk =>
        have hbs : t.tk.isSome = true := by simp [hb]
        have ST := step_arena hRc hR.inv.count hn hnc (show P.count.pts[i]? = some t from ht) hbs (P.n : Int)
        refine (mv_step (q := f.at h) hM hnI hn0 i _ hths arg data ST).mono ?_
        rintro e w' ⟨rfl, ho⟩
        have e2 : (P.count.step i t P.n).2 = true := by
          obtain ⟨kd, k⟩ := kk
          simp only [Pa.step, hb]
          split <;> rfl
        exact ⟨by rw [e2], OutA.from hfc ho⟩
    · rw [if_neg hop]
      cases hb : t.tk with
      | none =>
        simp only [Option.isSome_none, Bool.false_eq_true, if_false]
        have htv : (t.th (h.bc i) (h.bt i)).tv = .nilIface := by simp [At.th, hb, tkV]
        have BG := begin_arena hRc hR.inv.count hn hnc hsl (show P.count.pts[i]? = some t from ht) op arg data (P.n : Int)
        refine (mv_begin (q := f.at h) hM hnI hn0 i _ hths op arg data hop htv BG).mono ?_
        rintro e w' ⟨rfl, ho⟩
        exact ⟨rfl, OutA.from hfc ho⟩
      | some kk =>
        simp only [Option.isSome_some, if_true]
        obtain ⟨ty, v, htv⟩ : ∃ ty v, (t.th (h.bc i) (h.bt i)).tv = .iface ty v := by
          obtain ⟨kd, k⟩ := kk
          cases kd <;> exact ⟨_, _, by simp only [At.th, hb, tkV]; rfl⟩
        refine (mv_busy (q := f.at h) hM hnI hn0 i _ hths op arg data hop ty v htv).mono ?_
        rintro e w' ⟨rfl, rfl⟩
        exact ⟨rfl, OutA.from hfc (OutA.same hRc (Below.refl _ _))⟩
  · have e : P.move th op arg data = (P.count, false) := by simp only [Pa.move, if_neg hfull, if_neg hin]
    rw [e]
    obtain ⟨hRc, hfc, hsc⟩ := hR.counted hn (mvO th op arg data)
    refine (mv_none (q := f.at h) th op arg data hM hnI hn0 (by show th < 0 ∨ (f.q.nt : Int) ≤ th; omega)).mono ?_
    rintro e w' ⟨rfl, rfl⟩
    exact ⟨rfl, OutA.from hfc (OutA.same hRc (Below.refl _ _))⟩
end
end Go.Proofs.YtjpgjhjnneeliaaGreat.Ar
/-
  arena.New (nothing used) and Kit by their contracts.
-/
namespace Go.Proofs.YtjpgjhjnneeliaaGreat.Ar
open Go.RowKit Go.Shelf Mr Me Ma Wc Wm
theorem info_ints : (Tryz.prog.info? 45).map (fun i => (i.zero, i.size, i.bytes)) = some (some (.slice none 0 0), 1, 24) := by kernel_rfl
/-- A new arena. -/
def Ao.new (n t : Nat) : Ao := ⟨List.replicate n (0, -1), List.replicate t []⟩
theorem new_bad (c : Cf) (hc : c.ok = false) (u : Int) (w : World) : Calls Tryz.prog 23 #[c.val, .int .i64 u] w fun e w' => e = .returned (.tuple #[.pointer none, .int .i64 1]) ∧ Below w.heap.size w w' := by
  have hc' : cfgB c.a0 c.a1 c.a2 c.a3 c.a4 c.a5 c.a6 = false := hc
  have C := fun w => check_any c.a0 c.a1 c.a2 c.a3 c.a4 c.a5 c.a6 w
  rw [hc', chk_f] at C
  clear hc hc'
  unfold Cf.val
  go_enter Tryz.func23, Tryz.ntmps23
  go_wp2_with (go_at_call 37; refine (C _).mono ?_; clear C; rintro e w1 ⟨rfl, hB⟩)
  go_ret2
  exact ⟨rfl, ((Below.refl _ _).alloc (Nat.le_refl _) _).trans (hB.mono (by simp))⟩
set_option maxRecDepth 100000 in
set_option maxHeartbeats 1000000 in
theorem new_ok (c : Cf) (hc : c.ok = true) (n nt : Nat) (h5 : c.a5 = n) (h0 : c.a0 = nt) (w : World) : Calls Tryz.prog 23 #[c.val, .int .i64 0] w fun e w' => ∃ ba gs cs vca vs, e = .returned (.tuple #[.pointer (some ⟨ba, 0, none⟩), .int .i64 0]) ∧ Ar w' (fun k => w.heap.size ≤ k ∧ k < w'.heap.size) ba gs cs c vca vs (Ao.new n nt) ∧ Below w.heap.size w w' := by
  have hc' : cfgB c.a0 c.a1 c.a2 c.a3 c.a4 c.a5 c.a6 = true := hc
  obtain ⟨_, _, _, _, q5, q6, _⟩ := ok_of hc'
  have q0 : 1 ≤ nt ∧ nt ≤ 16 := by
    have : inB c.a0 1 16 = true := by simp [cfgB] at hc'; simp [hc'.1.1.1.1.1.1]
    have := inB_iff this
    omega
  have C := fun w => check_any c.a0 c.a1 c.a2 c.a3 c.a4 c.a5 c.a6 w
  rw [hc', chk_t] at C
  have RP := fun (w1 : World) => repeat_any (w1.alloc (.cells #[.int .i64 0, .int .i64 (-1)] 103)) w1.heap.size n (by omega) (by omega) (heap_alloc_new w1 _)
  simp only [World.size_alloc] at RP
  obtain ⟨i0, hi, hz0, hz1, hz2⟩ := info_parts info_ints
  have hmk : ∀ u : World, (Instr.makeSlice 99 (.int .i64 (nt : Int)) (.int .i64 (nt : Int))).run Tryz.prog u = .ok (.slice (some ⟨u.heap.size, 0, none⟩) nt nt) (u.alloc (.cells (madeCells #[.slice none 0 0] nt) 45)) := fun u => by
    have h := run_make (P := Tryz.prog) u 99 45 i0 (.slice none 0 0) Tryz.underlying99 hi hz0 .i64 .i64 (nt : Int) (nt : Int) (by omega) (Int.le_refl _) (by rw [hz2]; omega) (by omega)
    have e : ((nt : Int)).toNat = nt := by omega
    rw [e] at h
    rw [hz1] at h
    simpa [Value.cells] using h
  have box : ∀ w1 : World, Below (w.heap.size + 1) (w.alloc (.cells #[.int .i64 c.a0, .int .i64 c.a1, .int .i64 c.a2, .int .i64 c.a3, .int .i64 c.a4, .int .i64 c.a5, .int .i64 c.a6] 23)) w1 → w1.cell? ⟨w.heap.size, 0, none⟩ = some (.int .i64 c.a0) ∧ w1.cell? ⟨w.heap.size, 1, none⟩ = some (.int .i64 c.a1) ∧ w1.cell? ⟨w.heap.size, 2, none⟩ = some (.int .i64 c.a2) ∧ w1.cell? ⟨w.heap.size, 3, none⟩ = some (.int .i64 c.a3) ∧ w1.cell? ⟨w.heap.size, 4, none⟩ = some (.int .i64 c.a4) ∧ w1.cell? ⟨w.heap.size, 5, none⟩ = some (.int .i64 c.a5) ∧ w1.cell? ⟨w.heap.size, 6, none⟩ = some (.int .i64 c.a6) ∧ w.heap.size < w1.heap.size := fun w1 hB => by
    have hs := hB.size
    have hb : w1.heap[w.heap.size]? = some (.cells #[.int .i64 c.a0, .int .i64 c.a1, .int .i64 c.a2, .int .i64 c.a3, .int .i64 c.a4, .int .i64 c.a5, .int .i64 c.a6] 23 (0, 0)) := (hB.block w.heap.size (by omega)).trans (heap_alloc_new w _)
    simp at hs
    simp [World.cell?, hb]
    omega
  clear hc'
  unfold Cf.val
  obtain ⟨a0, a1, a2, a3, a4, a5, a6⟩ := c
  simp only at h5 h0 q5 q6
  subst h5 h0
  simp only at C box ⊢
  have d5 : decide ((n : Int) < 0) = false := by simp
  replace C := Mr.hid C
  replace RP := Mr.hid RP
  replace box := Mr.hid box
  go_enter Tryz.func23, Tryz.ntmps23
  go_wp2_with (first | (go_at_call 37; refine (C.out _).mono ?_; clear C; rintro e w1 ⟨rfl, hB⟩; simp only [World.size_alloc] at hB; obtain ⟨y0, y1, y2, y3, y4, y5, y6, y7⟩ := box.out w1 hB; have z5 : ∀ o, (w1.alloc o).cell? ⟨w.heap.size, 5, none⟩ = some (.int .i64 (n : Int)) := (fun o => by rw [World.cell?_alloc_past _ _ _ y7]; exact y5); have RP1 := RP.out w1; clear RP; replace RP1 := Mr.hid RP1; replace hB := Mr.hid hB) | (go_at_call 38; refine RP1.out.mono ?_; clear RP1; rintro e w2 ⟨rfl, hT, hB2⟩; clear y0 y1 y2 y3 y4 y5 y6 z5; replace hT := Mr.hid hT; replace hB2 := Mr.hid hB2))
  have hB3 : Below (w.heap.size + 1) (w.alloc (.cells #[.int .i64 (nt : Int), .int .i64 a1, .int .i64 a2, .int .i64 a3, .int .i64 a4, .int .i64 (n : Int), .int .i64 a6] 23)) w2 := (hB.out.alloc (by omega) _).trans (hB2.out.mono (by omega))
  obtain ⟨y0, y1, y2, y3, y4, y5, y6, y8⟩ := box.out w2 hB3
  have hmk2 := hmk w2.drew
  clear box hmk
  replace hB3 := Mr.hid hB3
  refine wp_loop_rounds 1 ?_
  rw [rounds_succ]
  go_wp2
  go_region_held3 (fun w' => w'.cell? ⟨w.heap.size, 0, none⟩ = some (.int .i64 (nt : Int)) ∧ w'.cell? ⟨w.heap.size, 1, none⟩ = some (.int .i64 a1) ∧ w'.cell? ⟨w.heap.size, 2, none⟩ = some (.int .i64 a2) ∧ w'.cell? ⟨w.heap.size, 3, none⟩ = some (.int .i64 a3) ∧ w'.cell? ⟨w.heap.size, 4, none⟩ = some (.int .i64 a4) ∧ w'.cell? ⟨w.heap.size, 5, none⟩ = some (.int .i64 (n : Int)) ∧ w'.cell? ⟨w.heap.size, 6, none⟩ = some (.int .i64 a6)) (go_keep) (fail)
  go_wp2
  go_ret2
  obtain ⟨W5, hW5⟩ : ∃ W5, ((w2.alloc (.cells (madeCells #[.slice none 0 0] nt) 45)).alloc (.cells #[.int .i64 (nt : Int), .int .i64 a1, .int .i64 a2, .int .i64 a3, .int .i64 a4, .int .i64 (n : Int), .int .i64 a6, .slice (some ⟨w1.heap.size + 1, 0, none⟩) n n, .slice (some ⟨w2.heap.size, 0, none⟩) nt nt] 101)).drew = W5 := ⟨_, rfl⟩
  rw [hW5]
  have s2 := hB2.out.size
  have s5 : W5.heap.size = w2.heap.size + 1 + 1 := by rw [← hW5]; simp
  have k5 : ∀ k, k < w2.heap.size → W5.heap[k]? = w2.heap[k]? := fun k hk => by rw [← hW5]; exact (Below.heap_alloc _ _ _ (by simp; omega)).trans (Below.heap_alloc _ _ _ hk)
  have kc : W5.heap[w2.heap.size]? = some (.cells (madeCells #[.slice none 0 0] nt) 45 (0, 0)) := by rw [← hW5]; exact (Below.heap_alloc _ _ _ (by simp)).trans (heap_alloc_new w2 _)
  have ka : W5.heap[w2.heap.size + 1]? = some (.cells #[.int .i64 (nt : Int), .int .i64 a1, .int .i64 a2, .int .i64 a3, .int .i64 a4, .int .i64 (n : Int), .int .i64 a6, .slice (some ⟨w1.heap.size + 1, 0, none⟩) n n, .slice (some ⟨w2.heap.size, 0, none⟩) nt nt] 101 (0, 0)) := by
    rw [← hW5]
    have := heap_alloc_new (w2.alloc (.cells (madeCells #[.slice none 0 0] nt) 45)) (.cells #[.int .i64 (nt : Int), .int .i64 a1, .int .i64 a2, .int .i64 a3, .int .i64 a4, .int .i64 (n : Int), .int .i64 a6, .slice (some ⟨w1.heap.size + 1, 0, none⟩) n n, .slice (some ⟨w2.heap.size, 0, none⟩) nt nt] 101)
    rw [World.size_alloc] at this
    exact this
  have B5 : Below w.heap.size w W5 := by
    have b1 : Below w.heap.size w w2 := ((Below.refl _ _).alloc (Nat.le_refl _) _).trans (hB3.out.mono (by omega))
    rw [← hW5]
    exact ((b1.alloc (by omega) _).alloc (by simp; omega) _).drew
  have hmc : (madeCells #[Value.slice none 0 0] nt).toList = List.replicate nt (.slice none 0 0) := by
    apply List.ext_getElem
    · simp [size_madeCells]
    · intro j h1 h2
      simp [madeCells, Nat.mod_one]
  refine ⟨w2.heap.size + 1, w1.heap.size + 1, n, .slice (some ⟨w2.heap.size, 0, none⟩) nt nt, List.replicate nt (.slice none 0 0), rfl, ⟨?_, ?_, ?_, ?_, ?_, ?_, hc, ?_⟩, B5⟩
  · simpa [Ao.new] using ka
  · have e1 : (Ao.new n nt).sl.length = n := by simp [Ao.new]
    rw [e1]
    have hT' := hT.out
    exact hT'.kept (fun k hk => k5 k (hT'.lt k hk).2) (fun k hk => by have := hT'.lt k hk; exact ⟨by omega, by omega⟩)
  · have e1 : (Ao.new n nt).ca.length = nt := by simp [Ao.new]
    rw [e1]
    refine ⟨by simp, .inr ⟨w2.heap.size, nt, _, rfl, ⟨by omega, by omega⟩, kc, Nat.le_refl _, by unfold maxLen; omega, by simp [size_madeCells], ?_⟩⟩
    rw [hmc]
    simp
  · intro i v l hv hl
    have e1 : v = .slice none 0 0 := (List.mem_replicate.1 (List.mem_of_getElem? hv)).2
    have e2 : l = [] := by
      have hl' : (List.replicate nt ([] : List Int))[i]? = some l := hl
      exact (List.mem_replicate.1 (List.mem_of_getElem? hl')).2
    subst e1 e2
    exact Has.nil _ _ _ _
  · intro i j v v' k hv _ e1
    have e2 : v = .slice none 0 0 := (List.mem_replicate.1 (List.mem_of_getElem? hv)).2
    subst e2
    simp [Value.ownBlock] at e1
  · exact ⟨by omega, by omega⟩
  · simp [Ao.new]
end Go.Proofs.YtjpgjhjnneeliaaGreat.Ar
/-
  THE ARENA's Kit by its contract.
-/
namespace Go.Proofs.YtjpgjhjnneeliaaGreat.Ar
open Go.RowKit Go.Shelf Mr Me Ma Wc Wm
def fK (g ca : Nat) : Value := .func (.func g) #[] #[.pointer (some ⟨ca, 0, none⟩)]
theorem run_makeMap (w : World) : (Instr.makeMap 77 none).run Tryz.prog w = .ok (.map (some w.heap.size)) (w.alloc (.map #[] 0)) := by rfl
theorem run_ins1 (w : World) (km : Nat) (v : Value) (h : w.heap[km]? = some (.map #[] 0)) : (Instr.mapUpdate 77 (.map (some km)) (.int .i64 10) v).run Tryz.prog w = .ok () (w.putObj km (.map #[⟨.int .i64 10, v, 0⟩] 1)) := by
  have hch : ∀ b, (Instr.checkKey b 10000 37 (.int .i64 10)).run Tryz.prog w = .ok () w := fun b => by cases b <;> kernel_rfl
  have hget : (getObj km).run Tryz.prog w = .ok (.map #[] 0) w := by simp [getObj, Sem.run, h]
  have hset : ∀ o, (setObj km o).run Tryz.prog w = .ok () (w.putObj km o) := fun o => by simp [setObj, Sem.run, h, World.putObj]
  simp [Instr.mapUpdate, run_underlying Tryz.underlying77, hget, hch, Instr.findKey, run_underlying Tryz.underlying37, Instr.findNow, hset]
theorem run_ins2 (w : World) (km : Nat) (v u : Value) (h : w.heap[km]? = some (.map #[⟨.int .i64 10, v, 0⟩] 1)) : (Instr.mapUpdate 77 (.map (some km)) (.int .i64 11) u).run Tryz.prog w = .ok () (w.putObj km (.map #[⟨.int .i64 10, v, 0⟩, ⟨.int .i64 11, u, 1⟩] 2)) := by
  have hch : ∀ b, (Instr.checkKey b 10000 37 (.int .i64 11)).run Tryz.prog w = .ok () w := fun b => by cases b <;> kernel_rfl
  have hget : (getObj km).run Tryz.prog w = .ok (.map #[⟨.int .i64 10, v, 0⟩] 1) w := by simp [getObj, Sem.run, h]
  have hset : ∀ o, (setObj km o).run Tryz.prog w = .ok () (w.putObj km o) := fun o => by simp [setObj, Sem.run, h, World.putObj]
  simp [Instr.mapUpdate, run_underlying Tryz.underlying77, hget, hch, Instr.findKey, run_underlying Tryz.underlying37, Instr.findNow, Instr.sameNow, hset]
theorem run_ins3 (w : World) (km : Nat) (v u x : Value) (h : w.heap[km]? = some (.map #[⟨.int .i64 10, v, 0⟩, ⟨.int .i64 11, u, 1⟩] 2)) : (Instr.mapUpdate 77 (.map (some km)) (.int .i64 12) x).run Tryz.prog w = .ok () (w.putObj km (.map #[⟨.int .i64 10, v, 0⟩, ⟨.int .i64 11, u, 1⟩, ⟨.int .i64 12, x, 2⟩] 3)) := by
  have hch : ∀ b, (Instr.checkKey b 10000 37 (.int .i64 12)).run Tryz.prog w = .ok () w := fun b => by cases b <;> kernel_rfl
  have hget : (getObj km).run Tryz.prog w = .ok (.map #[⟨.int .i64 10, v, 0⟩, ⟨.int .i64 11, u, 1⟩] 2) w := by simp [getObj, Sem.run, h]
  have hset : ∀ o, (setObj km o).run Tryz.prog w = .ok () (w.putObj km o) := fun o => by simp [setObj, Sem.run, h, World.putObj]
  simp [Instr.mapUpdate, run_underlying Tryz.underlying77, hget, hch, Instr.findKey, run_underlying Tryz.underlying37, Instr.findNow, Instr.sameNow, hset]
section
variable {T : Nat → Prop} {ba gs cs : Nat} {c : Cf} {vca : Value} {vs : List Value} {A : Ao}
set_option maxRecDepth 100000 in
set_option maxHeartbeats 1000000 in
theorem kit_any (w : World) (h : Ar w T ba gs cs c vca vs A) (hl : ∀ k, T k → k < w.heap.size) (hn : 0 < A.sl.length) : Calls Tryz.prog 26 #[.pointer (some ⟨ba, 0, none⟩)] w fun e w' => e = .returned (.map (some (w.heap.size + 1))) ∧ Ktr w' (fun k => w.heap.size ≤ k ∧ k < w'.heap.size) (w.heap.size + 1) w.heap.size ba ∧ Below w.heap.size w w' := by
  have hmf : ∀ (fn : Fn) (first cap : Array Value) (w : World), (Instr.makeFunc fn first cap).run Tryz.prog w = .ok (.func fn first cap) w := fun _ _ _ _ => rfl
  obtain ⟨W1, hW1⟩ : ∃ W1, w.alloc (.cells #[.pointer (some ⟨ba, 0, none⟩)] 51) = W1 := ⟨_, rfl⟩
  have s1 : W1.heap.size = w.heap.size + 1 := by rw [← hW1]; simp
  have b1 : W1.heap[w.heap.size]? = some (.cells #[.pointer (some ⟨ba, 0, none⟩)] 51 (0, 0)) := by rw [← hW1]; exact heap_alloc_new w _
  have B1 : Below w.heap.size w W1 := by rw [← hW1]; exact (Below.refl _ _).alloc (Nat.le_refl _) _
  have MD := made_arena (h.kept (w := W1) (fun k hk => B1.block k (hl k hk)) (fun _ h => h)) hn
  have c1 : W1.cell? ⟨w.heap.size, 0, none⟩ = some (.pointer (some ⟨ba, 0, none⟩)) := by simp [World.cell?, b1]
  obtain ⟨W2, hW2⟩ : ∃ W2, W1.alloc (.map #[] 0) = W2 := ⟨_, rfl⟩
  have s2 : W2.heap.size = w.heap.size + 1 + 1 := by rw [← hW2]; simp [s1]
  have g2 : W2.heap[w.heap.size + 1]? = some (.map #[] 0) := by rw [← hW2, ← s1]; exact heap_alloc_new W1 _
  have B2 : Below (w.heap.size + 1) W1 W2 := by rw [← hW2]; exact (Below.refl _ _).alloc (by omega) _
  have m0 := run_makeMap W1
  rw [hW2, s1] at m0
  have i1 := run_ins1 W2 (w.heap.size + 1) (fK 46 w.heap.size) g2
  have put : ∀ (V : World) (o : Obj), V.heap.size = w.heap.size + 1 + 1 → Below (w.heap.size + 1) W1 V → (V.putObj (w.heap.size + 1) o).heap.size = w.heap.size + 1 + 1 ∧ (V.putObj (w.heap.size + 1) o).heap[w.heap.size + 1]? = some o ∧ Below (w.heap.size + 1) W1 (V.putObj (w.heap.size + 1) o) := fun V o hs hB => by
    refine ⟨by simp [World.putObj, hs], World.putObj_heap_same (by omega), ⟨hB.os, hB.tape, hB.output, by simp [World.putObj, hs, s1], fun k hk => (World.putObj_heap_other (by omega)).trans (hB.block k hk)⟩⟩
  obtain ⟨s3, g3, B3⟩ := put W2 (.map #[⟨.int .i64 10, fK 46 w.heap.size, 0⟩] 1) s2 B2
  generalize W2.putObj (w.heap.size + 1) (.map #[⟨.int .i64 10, fK 46 w.heap.size, 0⟩] 1) = W3 at *
  have i2 := run_ins2 W3 (w.heap.size + 1) _ (fK 48 w.heap.size) g3
  obtain ⟨s4, g4, B4⟩ := put W3 (.map #[⟨.int .i64 10, fK 46 w.heap.size, 0⟩, ⟨.int .i64 11, fK 48 w.heap.size, 1⟩] 2) s3 B3
  generalize W3.putObj (w.heap.size + 1) (.map #[⟨.int .i64 10, fK 46 w.heap.size, 0⟩, ⟨.int .i64 11, fK 48 w.heap.size, 1⟩] 2) = W4 at *
  have i3 := run_ins3 W4 (w.heap.size + 1) _ _ (fK 51 w.heap.size) g4
  obtain ⟨s5, g5, B5⟩ := put W4 (.map #[⟨.int .i64 10, fK 46 w.heap.size, 0⟩, ⟨.int .i64 11, fK 48 w.heap.size, 1⟩, ⟨.int .i64 12, fK 51 w.heap.size, 2⟩] 3) s4 B4
  generalize W4.putObj (w.heap.size + 1) (.map #[⟨.int .i64 10, fK 46 w.heap.size, 0⟩, ⟨.int .i64 11, fK 48 w.heap.size, 1⟩, ⟨.int .i64 12, fK 51 w.heap.size, 2⟩] 3) = W5 at *
  have fin : Ktr W5 (fun k => w.heap.size ≤ k ∧ k < W5.heap.size) (w.heap.size + 1) w.heap.size ba ∧ Below w.heap.size w W5 := by
    have hb := B5.block w.heap.size (by omega)
    exact ⟨⟨g5, (World.cell?_of_block hb).trans c1, ⟨by omega, by omega⟩, ⟨by omega, by omega⟩⟩, B1.trans (B5.mono (by omega))⟩
  replace fin := Mr.hid fin
  simp only [fK] at i1 i2 i3
  clear put b1 B1 B2 B3 B4 B5 g2 g3 g4 g5 h
  go_enter Tryz.func26, Tryz.ntmps26
  go_wp2_with (go_at_call 45; refine MD.mono ?_; clear MD; rintro e w' ⟨rfl, hw⟩; obtain rfl := hw.symm)
  go_ret
  exact ⟨rfl, fin.out⟩
end
end Go.Proofs.YtjpgjhjnneeliaaGreat.Ar
