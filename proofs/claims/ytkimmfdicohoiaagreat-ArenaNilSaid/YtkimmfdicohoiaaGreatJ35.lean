import Derived.Test.YtkimmfdicohoiaaGreatJ34
/-
  THE MACHINE WITH AN ARENA: Machine.begin, Machine.Move.
-/
namespace Go.Proofs.YtkimmfdicohoiaaGreat.Ar
open Go.RowKit Mr Me Ma Wc Wm
def upd (g : Nat → Nat) (i n : Nat) : Nat → Nat := fun k => if k = i then n else g k
theorem upd_same (g : Nat → Nat) (i n : Nat) : upd g i n i = n := by simp [upd]
theorem upd_other (g : Nat → Nat) (i n j : Nat) (h : j ≠ i) : upd g i n j = g j := by simp [upd, h]
theorem thsA_new (pts : List At) (bc bt : Nat → Nat) (i : Nat) (t' : At) (a b : Nat) : (thsA pts bc bt).set i (t'.th a b) = thsA (pts.set i t') (upd bc i a) (upd bt i b) := by
  apply List.ext_getElem?
  intro j
  rw [List.getElem?_set, thsA_get, thsA_get, List.getElem?_set, thsA_length]
  by_cases hj : i = j
  · subst hj
    simp only [if_true, upd_same]
    split <;> simp
  · simp only [if_neg hj, upd_other _ _ _ _ (fun e : j = i => hj e.symm)]
section
variable {W : World} {U K : Nat → Prop} {f : Fx} {h : Wh} {P : Pa} {i : Nat} {t : At}
theorem OutA.begun {s2 : Ss} {vc' : Value} {N : Nat → Obj → Prop} {w2 : World} {P2 : Pa} {tk' : Kd × Pk} {bcn btn : Nat} (hR : RA W U K f h P) (hg : Goes W U { f.at h with vc := vc' } s2 (fun k o => snap W h.T k o ∨ N k o) w2)
    (e1 : s2.ths = thsA P2.pts (upd h.bc i bcn) (upd h.bt i btn)) (e2 : s2.n = P2.n) (e3 : s2.cls = P2.cls) (e4 : s2.shs = P2.shs) (e5 : s2.ws = P2.ws) (e6 : s2.lg = P2.lg) (e7 : s2.ah.length ≤ P2.lg.length) (c : Int) (hp : P2.pts = P.pts.set i ⟨some tk', true, c⟩) (hA : P2.A = P.A) (hm : P2.m = P.m) (hK : P2.K = P.K) (hI : Inv P2 P2.n)
    (hNl : ∀ k o, N k o → W.heap.size ≤ k) (hNk : ∀ k, own bcn btn (some tk') k → ∃ o, N k o) (hob : ∀ (w : World) (T' : Nat → Prop), (∀ k o, N k o → w.heap[k]? = some o) → (∀ k, own bcn btn (some tk') k → T' k) → Tob w T' f.ba i bcn btn (some tk')) :
    OutA W U K f P2 w2 := by
  obtain ⟨U', S, vl, va, ⟨hx, hmm⟩, g1, g2, g3⟩ := hg
  have sm : ∀ k, h.T k → w2.heap[k]? = W.heap[k]? ∧ k < w2.heap.size := fun k hk => by
    have q1 := Array.getElem?_eq_getElem (hR.tl k hk)
    have q2 := (hx k _ (.inl ⟨hk, q1⟩)).1
    exact ⟨q2.trans q1.symm, (Array.getElem?_eq_some_iff.1 q2).1⟩
  have hN2 : ∀ k o, N k o → w2.heap[k]? = some o := fun k o ho => (hx k o (.inr ho)).1
  have ownl : ∀ k, own bcn btn (some tk') k → k < w2.heap.size ∧ W.heap.size ≤ k := fun k hk => by
    obtain ⟨o, ho⟩ := hNk k hk
    exact ⟨(Array.getElem?_eq_some_iff.1 (hN2 k o ho)).1, hNl k o ho⟩
  have kk : ∀ k, K k → w2.heap[k]? = W.heap[k]? := fun k hk => g3.block k (hR.ku k hk).2 (hR.ku k hk).1
  have hss : s2 = ({ S := S, vl := vl, va := va, vc := vc', vs := h.vs, mv := s2.mv, ah := s2.ah, T := fun k => h.T k ∨ own bcn btn (some tk') k, vsl := h.vsl, bc := upd h.bc i bcn, bt := upd h.bt i btn } : Wh).ss P2 := by
    obtain ⟨a1, a2, a3, a4, a5, a6, a7, a8⟩ := s2
    simp only at e1 e2 e3 e4 e5 e6
    subst e1 e2 e3 e4 e5 e6
    rfl
  refine ⟨U', { S := S, vl := vl, va := va, vc := vc', vs := h.vs, mv := s2.mv, ah := s2.ah, T := fun k => h.T k ∨ own bcn btn (some tk') k, vsl := h.vsl, bc := upd h.bc i bcn, bt := upd h.bt i btn }, ⟨?_, fun k hk => hk.elim (fun h => (sm k h).2) (fun h => (ownl k h).1), ?_, ?_, ?_, e7, hR.kt.kept kk, ?_, hI, by rw [hm]; exact hR.m, by rw [hK]; exact hR.ck, by rw [hK]; exact hR.K, hR.vk⟩, g1, g2, g3⟩
  · rw [← hss]
    refine ⟨fun k o ho => hx k o ?_, hmm⟩
    rcases ho.1 with hk | hk
    · exact .inl ⟨hk, ((sm k hk).1).symm.trans ho.2⟩
    · obtain ⟨o', ho'⟩ := hNk k hk
      have := (hN2 k o' ho').symm.trans ho.2
      cases this
      exact .inr ho'
  · rw [hA]
    exact hR.ar.kept (fun k hk => (sm k hk).1) (fun _ h => .inl h)
  · intro j u hj
    rw [hp] at hj
    rcases pts_set hj with ⟨rfl, rfl⟩ | ⟨hj1, hj2⟩
    · simp only [upd_same]
      exact hob w2 _ hN2 (fun k hk => .inr hk)
    · simp only [upd_other _ _ _ _ hj1]
      exact (hR.tob j u hj2).kept (fun k hk _ => (sm k hk).1) (fun _ h => .inl h)
  · intro a b u v k ha hb hu hv
    rw [hp] at ha hb
    have low : ∀ (j : Nat) (x : At), P.pts[j]? = some x → own (h.bc j) (h.bt j) x.tk k → k < W.heap.size := fun j x hj ho => hR.tl k ((hR.tob j x hj).obj ho).1
    rcases pts_set ha with ⟨rfl, rfl⟩ | ⟨ha1, ha2⟩
    · rcases pts_set hb with ⟨rfl, rfl⟩ | ⟨hb1, hb2⟩
      · rfl
      · simp only [upd_same] at hu
        simp only [upd_other _ _ _ _ hb1] at hv
        have := low b v hb2 hv
        have := (ownl k hu).2
        omega
    · simp only [upd_other _ _ _ _ ha1] at hu
      rcases pts_set hb with ⟨rfl, rfl⟩ | ⟨hb1, hb2⟩
      · simp only [upd_same] at hv
        have := low a u ha2 hu
        have := (ownl k hv).2
        omega
      · simp only [upd_other _ _ _ _ hb1] at hv
        exact hR.dj a b u v k ha2 hb2 hu hv
  · intro k hk
    refine ⟨fun hu => ?_, Nat.lt_of_lt_of_le (hR.ku k hk).2 g3.size⟩
    rcases g2 k hu with hu | hu
    · exact (hR.ku k hk).1 hu
    · have := (hR.ku k hk).2; omega
/-- Nothing has turned. -/
theorem OutA.same (hR : RA W U K f h P) {w : World} (hB : Below W.heap.size W w) : OutA W U K f P w :=
  ⟨U, h, ⟨⟨fun k o ho => by
      have hl := hR.tl k ho.1
      have := hR.mch.1 k o ⟨ho.1, (hB.block k hl).symm.trans ho.2⟩
      exact ⟨ho.2, this.2⟩, hR.mch.2.below hB⟩, fun k hk => Nat.lt_of_lt_of_le (hR.tl k hk) hB.size, hR.ar.kept (fun k hk => hB.block k (hR.tl k hk)) (fun _ h => h), fun i t ht => (hR.tob i t ht).kept (fun k hk _ => hB.block k (hR.tl k hk)) (fun _ h => h), hR.dj, hR.ah, hR.kt.kept (fun k hk => hB.block k (hR.ku k hk).2), fun k hk => ⟨(hR.ku k hk).1, Nat.lt_of_lt_of_le (hR.ku k hk).2 hB.size⟩, hR.inv, hR.m, hR.ck, hR.K, hR.vk⟩, fun _ h => h, fun _ h => .inl h, Fr.of_below hB⟩
end
end Go.Proofs.YtkimmfdicohoiaaGreat.Ar
/-
  THE MACHINE WITH AN ARENA: Machine.begin and Machine.Move by the arena without the model.
-/
namespace Go.Proofs.YtkimmfdicohoiaaGreat.Ar
open Go.RowKit Mr Me Ma Wc Wm
section
variable {W : World} {U K : Nat → Prop} {f : Fx} {h : Wh} {P : Pa} {i : Nat} {t : At}
theorem Ktr.alloc {km ca ba : Nat} (h : Ktr W K km ca ba) (hl : ∀ k, K k → k < W.heap.size) (o : Obj) : Ktr (W.alloc o) K km ca ba := h.kept (fun k hk => Below.heap_alloc _ _ _ (hl k hk))
theorem begins_some {tk : Kd × Pk} {op arg data now : Int} (hm : P.maker i op arg = some tk) : P.begins i op arg data now = ({ P with cls := P.cls ++ [⟨i, op, arg, data, now, -1, -1, 0, 0⟩], pts := P.pts.set i ⟨some tk, true, (P.cls.length : Int)⟩ }, true) := by simp [Pa.begins, hm]
theorem begins_none {op arg data now : Int} (hm : P.maker i op arg = none) : P.begins i op arg data now = (P, false) := by simp [Pa.begins, hm]
set_option maxHeartbeats 1000000 in
theorem begin_arena (hR : RA W U K f h P) {b : Nat} (hI : Inv P b) (hb : b < 65536) (hn : P.n = b + 1) (hsl : 0 < P.A.sl.length) (ht : P.pts[i]? = some t) (op arg data now : Int) :
    Calls Tryz.prog 60 #[.pointer (some ⟨f.q.b, 0, none⟩), .agg #[.int .i64 (i : Int), .int .i64 op, .int .i64 arg, .int .i64 data], .int .i64 now] W fun e w' => e = .returned (.bool (P.begins i op arg data now).2) ∧ OutA W U K f (P.begins i op arg data now).1 w' := by
  have hi : i < P.pts.length := (List.getElem?_eq_some_iff.1 ht).1
  have hths : (h.ss P).ths[i]? = some (t.th (h.bc i) (h.bt i)) := by
    show (thsA P.pts h.bc h.bt)[i]? = _
    rw [thsA_get, ht]; rfl
  have hcr : (h.ss P).cls.length ≤ 100000 := by have := hI.cls; have := hI.bd; show P.cls.length ≤ 100000; omega
  have hKl : ∀ k, K k → k < W.heap.size := fun k hk => (hR.ku k hk).2
  -- the world of the look-up, and that of the maker
  have hsV : (W.alloc (mvO i op arg data)).drew.heap.size = W.heap.size + 1 := by simp
  have hBV : Below W.heap.size W (W.alloc (mvO i op arg data)).drew := ((Below.refl _ _).alloc (Nat.le_refl _) _).drew
  have kV : Ktr (W.alloc (mvO i op arg data)).drew K f.km f.ca f.ba := hR.kt.kept (fun k hk => hBV.block k (hKl k hk))
  have aV : Ar (W.alloc (mvO i op arg data)).drew h.T f.ba f.gs f.cs f.c f.vca h.vsl P.A := hR.ar.kept (fun k hk => hBV.block k (hR.tl k hk)) (fun _ h => h)
  have lV : ∀ k, h.T k → k < (W.alloc (mvO i op arg data)).drew.heap.size := fun k hk => by rw [hsV]; have := hR.tl k hk; omega
  have klV : ∀ k, K k → k < (W.alloc (mvO i op arg data)).drew.heap.size := fun k hk => by rw [hsV]; have := hKl k hk; omega
  generalize hV : (W.alloc (mvO i op arg data)).drew = V at *
  have hsM : (V.alloc (mvO i op arg data)).heap.size = W.heap.size + 1 + 1 := by simp [hsV]
  have kM := kV.alloc klV (mvO i op arg data)
  have aM := aV.alloc lV (mvO i op arg data)
  have lM : ∀ k, h.T k → k < (V.alloc (mvO i op arg data)).heap.size := fun k hk => by rw [hsM]; have := hR.tl k hk; omega
  have L : ∀ o, (Instr.lookup 48 (.map (some f.km)) (.int .i64 op) false).run Tryz.prog (V.alloc o) = .ok (mkr f.ca op) (V.alloc o) := fun o => (kV.alloc klV o).look op
  have bM : ∀ w, Below (V.alloc (mvO i op arg data)).heap.size (V.alloc (mvO i op arg data)) w → Below (W.heap.size + 1) V w := fun w hB => by
    rw [← hsV]
    exact ((Below.refl _ _).alloc (Nat.le_refl _) _).trans (hB.mono (by simp))
  have inv' := hI.begins hb ht op arg data now
  have NONE : P.maker i op arg = none → (Calls Tryz.prog 88 #[.map (some f.km), .agg #[.int .i64 (i : Int), .int .i64 op, .int .i64 arg, .int .i64 data]] V fun e w' => e = .returned .nilIface ∧ Below (W.heap.size + 1) V w') → Calls Tryz.prog 60 #[.pointer (some ⟨f.q.b, 0, none⟩), .agg #[.int .i64 (i : Int), .int .i64 op, .int .i64 arg, .int .i64 data], .int .i64 now] W fun e w' => e = .returned (.bool (P.begins i op arg data now).2) ∧ OutA W U K f (P.begins i op arg data now).1 w' := fun hm KB => by
    rw [begins_none hm]
    refine (machBegin_none (q := f.at h) hR.mch i op arg data now f.km hR.vk (by show Calls Tryz.prog 88 #[f.q.vk, _] _ _; rw [hR.vk, hV]; exact KB)).mono ?_
    rintro e w' ⟨rfl, hB⟩
    exact ⟨rfl, OutA.same hR hB⟩
  have SOME : ∀ (tk : Kd × Pk) (bcn btn : Nat) (N : Nat → Obj → Prop), P.maker i op arg = some tk → (∀ k o, N k o → W.heap.size ≤ k) → (∀ k, own bcn btn (some tk) k → ∃ o, N k o) → (∀ (w : World) (T' : Nat → Prop), (∀ k o, N k o → w.heap[k]? = some o) → (∀ k, own bcn btn (some tk) k → T' k) → Tob w T' f.ba i bcn btn (some tk)) →
      (∃ ty x, tkV bcn btn (some tk) = .iface ty x) → (Calls Tryz.prog 88 #[.map (some f.km), .agg #[.int .i64 (i : Int), .int .i64 op, .int .i64 arg, .int .i64 data]] V fun e w' => e = .returned (tkV bcn btn (some tk)) ∧ Below (W.heap.size + 1) V w' ∧ ∀ k o, N k o → w'.heap[k]? = some o) →
      Calls Tryz.prog 60 #[.pointer (some ⟨f.q.b, 0, none⟩), .agg #[.int .i64 (i : Int), .int .i64 op, .int .i64 arg, .int .i64 data], .int .i64 now] W fun e w' => e = .returned (.bool (P.begins i op arg data now).2) ∧ OutA W U K f (P.begins i op arg data now).1 w' := fun tk bcn btn N hm hNl hNk hob htv KB => by
    obtain ⟨ty, x, htv⟩ := htv
    rw [begins_some hm] at inv' ⊢
    rw [htv] at KB
    refine (machBegin_any (q := f.at h) hR.mch hcr i _ hths op arg data now ty x f.km hR.vk (Z := fun N' _ => N' = N) (by
      show Calls Tryz.prog 88 #[f.q.vk, _] _ _
      rw [hR.vk, hV]
      refine KB.mono ?_
      rintro e w' ⟨rfl, g1, g2⟩
      exact ⟨rfl, g1, N, fun k o ho => ⟨hNl k o ho, g2 k o ho⟩, rfl⟩)).mono ?_
    rintro e w' ⟨rfl, vc', N', w2, hg, rfl⟩
    refine ⟨rfl, OutA.begun (tk' := tk) (bcn := bcn) (btn := btn) hR hg ?_ rfl rfl rfl rfl rfl hR.ah (P.cls.length : Int) rfl rfl rfl rfl (by have := inv'; rw [← hn] at this; exact this) hNl hNk hob⟩
    have := thsA_new P.pts h.bc h.bt i ⟨some tk, true, (P.cls.length : Int)⟩ bcn btn
    rw [← this]
    simp only [At.th, htv]
    rfl
  by_cases h1 : op = 10
  · have hmk : mkr f.ca op = .func (.func 49) #[] #[.pointer (some ⟨f.ca, 0, none⟩)] := by simp [mkr, h1]
    rw [hmk] at L
    have hm : P.maker i op arg = some (.take, ⟨1, 0, 0, 0, false⟩) := by simp [Pa.maker, h1]
    have C := kit1_any aM lM hsl kM.c i op arg data
    rw [hsM] at C
    refine SOME _ (W.heap.size + 1 + 1 + 1 + 1) (W.heap.size + 1 + 1 + 1) (fun k o => (k = W.heap.size + 1 + 1 + 1 ∧ o = tkO f.ba i) ∨ (k = W.heap.size + 1 + 1 + 1 + 1 ∧ o = tcO (W.heap.size + 1 + 1 + 1))) hm ?_ ?_ ?_ ⟨_, _, rfl⟩ ?_
    · rintro k o (⟨rfl, _⟩ | ⟨rfl, _⟩) <;> omega
    · rintro k (rfl | rfl)
      · exact ⟨_, .inr ⟨rfl, rfl⟩⟩
      · exact ⟨_, .inl ⟨rfl, rfl⟩⟩
    · intro w T' hw hT'
      exact ⟨hT' _ (.inl rfl), hT' _ (.inr rfl), by omega, hw _ _ (.inr ⟨rfl, rfl⟩), hw _ _ (.inl ⟨rfl, rfl⟩)⟩
    · refine kit_call (W := V) i op arg data L (enters_of Tryz.func49 (by kernel_rfl) rfl) (C.mono ?_)
      rintro e w' ⟨rfl, g1, g2, g3⟩
      refine ⟨rfl, bM _ (by rw [hsM]; exact g1), ?_⟩
      rintro k o (⟨rfl, rfl⟩ | ⟨rfl, rfl⟩)
      · exact g2
      · exact g3
  · by_cases h2 : op = 11
    · have hmk : mkr f.ca op = .func (.func 50) #[] #[.pointer (some ⟨f.ca, 0, none⟩)] := by simp [mkr, h2]
      rw [hmk] at L
      by_cases ho : P.A.has arg ∧ P.A.st arg = (2, (i : Int))
      · have hm : P.maker i op arg = some (.give, ⟨2, arg, 0, 0, false⟩) := by simp [Pa.maker, h2, ho]
        have C := kit2_yes aM lM kM.c i (by rw [hI.kc]; exact hi) op arg data ho
        rw [hsM] at C
        refine SOME _ 0 (W.heap.size + 1 + 1 + 1 + 1 + 1) (fun k o => k = W.heap.size + 1 + 1 + 1 + 1 + 1 ∧ o = gvO f.ba i arg) hm ?_ ?_ ?_ ⟨_, _, rfl⟩ ?_
        · rintro k o ⟨rfl, _⟩; omega
        · intro k hk
          exact ⟨_, hk, rfl⟩
        · intro w T' hw hT'
          exact ⟨hT' _ rfl, hw _ _ ⟨rfl, rfl⟩⟩
        · refine kit_call (W := V) i op arg data L (enters_of Tryz.func50 (by kernel_rfl) rfl) (C.mono ?_)
          rintro e w' ⟨rfl, g1, g2⟩
          refine ⟨rfl, bM _ (by rw [hsM]; exact g1), ?_⟩
          rintro k o ⟨rfl, rfl⟩
          exact g2
      · have hm : P.maker i op arg = none := by simp [Pa.maker, h2, ho]
        have C := kit2_no aM lM kM.c i op arg data ho
        rw [hsM] at C
        refine NONE hm (kit_call (W := V) i op arg data L (enters_of Tryz.func50 (by kernel_rfl) rfl) (C.mono ?_))
        rintro e w' ⟨rfl, g1⟩
        exact ⟨rfl, bM _ (by rw [hsM]; exact g1)⟩
    · by_cases h3 : op = 12
      · have hmk : mkr f.ca op = .func (.func 52) #[] #[.pointer (some ⟨f.ca, 0, none⟩)] := by simp [mkr, h3]
        rw [hmk] at L
        have hm : P.maker i op arg = some (.flush, ⟨3, 0, 0, 0, false⟩) := by simp [Pa.maker, h3]
        have C := kit3_any kM.c i op arg data
        rw [hsM] at C
        refine SOME _ 0 (W.heap.size + 1 + 1 + 1 + 1) (fun k o => k = W.heap.size + 1 + 1 + 1 + 1 ∧ o = flO f.ba i) hm ?_ ?_ ?_ ⟨_, _, rfl⟩ ?_
        · rintro k o ⟨rfl, _⟩; omega
        · intro k hk
          exact ⟨_, hk, rfl⟩
        · intro w T' hw hT'
          exact ⟨hT' _ rfl, hw _ _ ⟨rfl, rfl⟩⟩
        · refine kit_call (W := V) i op arg data L (enters_of Tryz.func52 (by kernel_rfl) rfl) (C.mono ?_)
          rintro e w' ⟨rfl, g1, g2⟩
          refine ⟨rfl, bM _ (by rw [hsM]; exact g1), ?_⟩
          rintro k o ⟨rfl, rfl⟩
          exact g2
      · have hmk : mkr f.ca op = .nilFunc := by simp [mkr, h1, h2, h3]
        rw [hmk] at L
        have hm : P.maker i op arg = none := by simp [Pa.maker, h1, h2, h3]
        refine NONE hm ((kit_none (W := V) i op arg data L).mono ?_)
        rintro e w' ⟨rfl, rfl⟩
        exact ⟨rfl, bM _ (Below.refl _ _)⟩
/-- Nothing but the count. -/
theorem RA.counted (hR : RA W U K f h P) (hn : P.n < 65536) (o : Obj) : RA (Wn W f.q.b ((P.n : Int) + 1) o) U K f h P.count ∧ Fr W (Wn W f.q.b ((P.n : Int) + 1) o) U ∧ W.heap.size < (Wn W f.q.b ((P.n : Int) + 1) o).heap.size := by
  obtain ⟨h1, h2, h3⟩ := hR.mch.setN ((P.n : Int) + 1) o
  have hl : ∀ k, k < W.heap.size → k ≠ f.q.b → (Wn W f.q.b ((P.n : Int) + 1) o).heap[k]? = W.heap[k]? := fun k hk hne => (Below.heap_alloc _ _ _ (by simpa using hk)).trans (Below.heap_setCell _ _ _ k hne)
  have tb : ∀ k, h.T k → k ≠ f.q.b := fun k hk => (hR.mch.1 k _ ⟨hk, Array.getElem?_eq_getElem (hR.tl k hk)⟩).2.2.2.1
  have kT : ∀ k, h.T k → (Wn W f.q.b ((P.n : Int) + 1) o).heap[k]? = W.heap[k]? := fun k hk => hl k (hR.tl k hk) (tb k hk)
  have kb : ∀ k, K k → k ≠ f.q.b := fun k hk e => (hR.ku k hk).1 (e ▸ hR.mch.2.ub.1)
  refine ⟨⟨?_, fun k hk => Nat.lt_trans (hR.tl k hk) h3, hR.ar.kept kT (fun _ h => h), fun i t ht => (hR.tob i t ht).kept (fun k hk _ => kT k hk) (fun _ h => h), hR.dj, hR.ah, hR.kt.kept (fun k hk => hl k (hR.ku k hk).2 (kb k hk)), fun k hk => ⟨(hR.ku k hk).1, Nat.lt_trans (hR.ku k hk).2 h3⟩, hR.inv.count.mono (Nat.le_succ _) (by show P.n + 1 ≤ 65536; omega), hR.m, hR.ck, hR.K, hR.vk⟩, h2, h3⟩
  have e : h.ss P.count = { h.ss P with n := (P.n : Int) + 1 } := by simp [Wh.ss, Pa.count]
  rw [e]
  exact ⟨fun k o ho => h1.1 k o ⟨ho.1, (kT k ho.1).symm.trans ho.2⟩, h1.2⟩
theorem OutA.from {W1 w : World} {P' : Pa} (hf : Fr W W1 U) (ho : OutA W1 U K f P' w) : OutA W U K f P' w := by
  obtain ⟨U', h', g1, g2, g3, g4⟩ := ho
  exact ⟨U', h', g1, g2, fun k hk => (g3 k hk).imp id (fun h => Nat.le_trans hf.size h), hf.trans (g4.mono (fun _ => .inl))⟩
theorem move_arena (hR : RA W U K f h P) (hsl : 0 < P.A.sl.length) (th op arg data : Int) :
    Calls Tryz.prog 17 #[.pointer (some ⟨f.q.b, 0, none⟩), .agg #[.int .i64 th, .int .i64 op, .int .i64 arg, .int .i64 data]] W fun e w' => e = .returned (.bool (P.move th op arg data).2) ∧ OutA W U K f (P.move th op arg data).1 w' := by
  have hM := hR.mch
  by_cases hfull : 65536 ≤ P.n
  · have e : P.move th op arg data = (P, false) := by simp [Pa.move, hfull]
    rw [e]
    refine (mv_full (q := f.at h) th op arg data hM (by show (65536 : Int) ≤ (P.n : Int); omega)).mono ?_
    rintro e w' ⟨rfl, hB⟩
    exact ⟨rfl, OutA.same hR hB⟩
  have hn : P.n < 65536 := by omega
  have hnI : ((h.ss P).n) < 65536 := by show (P.n : Int) < 65536; omega
  have hn0 : 0 ≤ (h.ss P).n := by show (0 : Int) ≤ (P.n : Int); omega
  have hnt : P.pts.length = f.q.nt := by rw [← thsA_length P.pts h.bc h.bt]; exact hM.nt
  by_cases hin : 0 ≤ th ∧ th < P.pts.length
  · obtain ⟨i, rfl⟩ : ∃ i : Nat, th = i := ⟨th.toNat, by omega⟩
    have hil : i < P.pts.length := by omega
    obtain ⟨t, ht⟩ : ∃ t, P.pts[i]? = some t := ⟨_, List.getElem?_eq_getElem hil⟩
    have hths : (h.ss P).ths[i]? = some (t.th (h.bc i) (h.bt i)) := by
      show (thsA P.pts h.bc h.bt)[i]? = _
      rw [thsA_get, ht]; rfl
    have em : P.move i op arg data = if op = 0 then P.count.step i t P.n else if t.tk.isSome = true then (P.count, false) else P.count.begins i op arg data P.n := by
      unfold Pa.move
      rw [if_neg hfull, if_pos hin, Int.toNat_natCast, ht]
    rw [em]
    obtain ⟨hRc, hfc, hsc⟩ := hR.counted hn (mvO i op arg data)
    have hnc : P.count.n = P.n + 1 := rfl
    by_cases hop : op = 0
    · subst hop
      rw [if_pos rfl]
      cases hb : t.tk with
      | none =>
        have e : P.count.step i t P.n = (P.count, false) := by simp [Pa.step, hb]
        rw [e]
        have htv : (t.th (h.bc i) (h.bt i)).tv = .nilIface := by simp [At.th, hb, tkV]
        refine (mv_step (q := f.at h) hM hnI hn0 i _ hths arg data (R := fun w' => w' = Wn W f.q.b ((P.n : Int) + 1) (mvO i 0 arg data)) (step_idle (hM.setN ((P.n : Int) + 1) (mvO i 0 arg data)).1 i _ hths htv _)).mono ?_
        rintro e w' ⟨rfl, rfl⟩
        exact ⟨rfl, OutA.from hfc (OutA.same hRc (Below.refl _ _))⟩
      | some kk =>
        have hbs : t.tk.isSome = true := by simp [hb]
        have ST := step_arena hRc hR.inv.count hn hnc (show P.count.pts[i]? = some t from ht) hbs (P.n : Int)
        refine (mv_step (q := f.at h) hM hnI hn0 i _ hths arg data ST).mono ?_
        rintro e w' ⟨rfl, ho⟩
        have e2 : (P.count.step i t P.n).2 = true := by
          obtain ⟨kd, k⟩ := kk
          simp only [Pa.step, hb]
          split <;> rfl
        exact ⟨by rw [e2], OutA.from hfc ho⟩
    · rw [if_neg hop]
      cases hb : t.tk with
      | none =>
        simp only [Option.isSome_none, Bool.false_eq_true, if_false]
        have htv : (t.th (h.bc i) (h.bt i)).tv = .nilIface := by simp [At.th, hb, tkV]
        have BG := begin_arena hRc hR.inv.count hn hnc hsl (show P.count.pts[i]? = some t from ht) op arg data (P.n : Int)
        refine (mv_begin (q := f.at h) hM hnI hn0 i _ hths op arg data hop htv BG).mono ?_
        rintro e w' ⟨rfl, ho⟩
        exact ⟨rfl, OutA.from hfc ho⟩
      | some kk =>
        simp only [Option.isSome_some, if_true]
        obtain ⟨ty, v, htv⟩ : ∃ ty v, (t.th (h.bc i) (h.bt i)).tv = .iface ty v := by
          obtain ⟨kd, k⟩ := kk
          cases kd <;> exact ⟨_, _, by simp only [At.th, hb, tkV]; rfl⟩
        refine (mv_busy (q := f.at h) hM hnI hn0 i _ hths op arg data hop ty v htv).mono ?_
        rintro e w' ⟨rfl, rfl⟩
        exact ⟨rfl, OutA.from hfc (OutA.same hRc (Below.refl _ _))⟩
  · have e : P.move th op arg data = (P.count, false) := by simp only [Pa.move, if_neg hfull, if_neg hin]
    rw [e]
    obtain ⟨hRc, hfc, hsc⟩ := hR.counted hn (mvO th op arg data)
    refine (mv_none (q := f.at h) th op arg data hM hnI hn0 (by show th < 0 ∨ (f.q.nt : Int) ≤ th; omega)).mono ?_
    rintro e w' ⟨rfl, rfl⟩
    exact ⟨rfl, OutA.from hfc (OutA.same hRc (Below.refl _ _))⟩
end
end Go.Proofs.YtkimmfdicohoiaaGreat.Ar
