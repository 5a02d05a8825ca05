import Derived.Test.YtcomelbphdjnnaaGreatDoorJ07
import Derived.Test.YtcomelbphdjnnaaGreatDoorJ04
import Derived.Lib.RuneCount
/-
  SCRIPT: wordsOf.
-/
namespace Go.Proofs.YtcomelbphdjnnaaGreatDoor.Sc
open Go.RowKit Mr
set_option linter.unusedVariables false
set_option linter.unusedSimpArgs false
set_option maxRecDepth 100000
def strs (ws : List (List UInt8)) : List Value := ws.map (fun l => Value.string ⟨l.toArray⟩)
theorem strs_one (ws : List (List UInt8)) : ∀ u ∈ strs ws, u.oneCell' = true := by
  intro u hu
  simp only [strs, List.mem_map] at hu
  obtain ⟨l, _, rfl⟩ := hu
  rfl
theorem info_s : ∃ i, Tryz.prog.info? 9 = some i ∧ i.zero = some (.string ⟨#[]⟩) ∧ i.size = 1 ∧ i.bytes = 16 := by
  have h : (Tryz.prog.info? 9).map (fun i => (i.zero, i.size, i.bytes)) = some (some (.string ⟨#[]⟩), 1, 16) := by kernel_rfl
  cases hi : Tryz.prog.info? 9 with
  | none => rw [hi] at h; cases h
  | some i => rw [hi] at h; simp at h; exact ⟨i, rfl, h.1, h.2.1, h.2.2⟩
def blI (r : Int) : Bool := (r == 32) || (r == 9) || (r == 13)
theorem isBlank_any (r : Int) (w : World) : Calls Tryz.prog 50 #[.int .i32 r] w fun e w' => e = .returned (.bool (blI r)) ∧ w' = w := by
  have key : ∀ (b1 b2 b3 : Bool), (r == 32) = b1 → (r == 9) = b2 → (r == 13) = b3 → Calls Tryz.prog 50 #[.int .i32 r] w fun e w' => e = .returned (.bool (b1 || b2 || b3)) ∧ w' = w := by
    intro b1 b2 b3 e1 e2 e3
    cases b1 <;> cases b2 <;> cases b3 <;> (
      go_enter Tryz.func50, Tryz.ntmps50
      go_wp2
      go_ret
      exact ⟨rfl, rfl⟩)
  exact key _ _ _ rfl rfl rfl
theorem blI_ascii (c : UInt8) : blI (c.toNat : Int) = bl c := by
  unfold blI bl
  have h : ∀ (k : UInt8), ((c.toNat : Int) == (k.toNat : Int)) = (c == k) := by
    intro k
    by_cases e : c = k
    · subst e; simp
    · have : c.toNat ≠ k.toNat := fun e2 => e (UInt8.toNat_inj.1 e2)
      rw [beq_eq_false_iff_ne.2 e, beq_eq_false_iff_ne.2 (by omega)]
  rw [← h 32, ← h 9, ← h 13]
  rfl
theorem blI_high (r : Int) (h : 128 ≤ r) : blI r = false := by
  unfold blI
  rw [beq_eq_false_iff_ne.2 (by omega), beq_eq_false_iff_ne.2 (by omega), beq_eq_false_iff_ne.2 (by omega)]
  rfl
/-- What wordsOf has come to. -/
structure Wi (w : World) (s : ByteArray) (wr : World) (v : Value) (bg : Int) (pos : Nat) (acc : List (List UInt8)) (cur : Option (List UInt8)) : Prop where
  row : Has wr (fun k => w.heap.size < k) 9 1 v acc.length (strs acc)
  bel : Below w.heap.size w wr
  it : wr.heap[w.heap.size]? = some (.stringIter s pos)
  le : pos ≤ s.size
  len : acc.length ≤ pos
  cr : (cur = none ∧ bg = -1) ∨ ∃ b : Nat, bg = b ∧ b ≤ pos ∧ cur = some (s.extract b pos).data.toList
  eq : acc ++ wgo cur (s.data.toList.drop pos) = words s.data.toList
theorem ext_list (a : ByteArray) (i j : Nat) : (a.extract i j).data.toList = (a.data.toList.take j).drop i := by
  rw [ByteArray.data_extract, Array.toList_extract, List.extract_eq_take_drop, List.drop_take]
theorem ext_more {l h : List UInt8} {pos wd b : Nat} (hl : pos + wd ≤ l.length) (hh : h.length = wd) (e : l.drop pos = h ++ l.drop (pos + wd)) (hb : b ≤ pos) : (l.take (pos + wd)).drop b = (l.take pos).drop b ++ h := by
  have e1 : l.take (pos + wd) = l.take pos ++ h := by
    rw [List.take_add, e, List.take_left' hh]
  rw [e1, List.drop_append_of_le_length (by rw [List.length_take]; omega)]
/-- The rune at a place, and its bytes. -/
structure Rn (s : ByteArray) (pos : Nat) (rr : Int) (wd : Nat) (h : List UInt8) : Prop where
  r : ((Utf8.decode s pos).1 : Int) = rr
  n : (Utf8.decode s pos).2 = wd
  pos1 : 1 ≤ wd
  le : pos + wd ≤ s.size
  drop : s.data.toList.drop pos = h ++ s.data.toList.drop (pos + wd)
  ext : ∀ b, b ≤ pos → (s.extract b (pos + wd)).data.toList = (s.extract b pos).data.toList ++ h
  kind : (∃ c : UInt8, blI rr = bl c ∧ (rr == 35) = (c == 35) ∧ h = [c]) ∨ (blI rr = false ∧ (rr == 35) = false ∧ (∀ c ∈ h, 128 ≤ c.toNat) ∧ h ≠ [])
theorem rune_at (s : ByteArray) (pos : Nat) (hp : pos < s.size) : ∃ rr wd h, Rn s pos rr wd h := by
  have hlen : s.data.toList.length = s.size := by simp
  have hgd := get_drop s pos hp
  by_cases ha : s[pos].toNat < 128
  · have hd := decode_ascii s pos hp ha
    refine ⟨_, 1, [s[pos]], rfl, by rw [hd], Nat.le_refl _, by omega, by rw [hgd]; rfl, fun b hb => ?_, .inl ⟨s[pos], ?_, ?_, rfl⟩⟩
    · rw [ext_list, ext_list]
      exact ext_more (by omega) rfl (by rw [hgd]; rfl) hb
    · rw [hd]; exact blI_ascii _
    · rw [hd]
      by_cases e : s[pos] = 35
      · rw [e]; rfl
      · have : s[pos].toNat ≠ 35 := fun e2 => e (UInt8.toNat_inj.1 (by simpa using e2))
        rw [beq_eq_false_iff_ne.2 e, beq_eq_false_iff_ne.2 (by simp only; omega)]
  · obtain ⟨h1, h2⟩ := decode_high s pos hp (by omega)
    obtain ⟨h3, h4⟩ := decode_bytes s pos hp (by omega)
    have e1 : s.data.toList.drop pos = (s.data.toList.drop pos).take (Utf8.decode s pos).2 ++ s.data.toList.drop (pos + (Utf8.decode s pos).2) := by
      rw [← List.drop_drop, List.take_append_drop]
    have e2 : ((s.data.toList.drop pos).take (Utf8.decode s pos).2).length = (Utf8.decode s pos).2 := by
      rw [List.length_take, List.length_drop]; omega
    refine ⟨_, _, (s.data.toList.drop pos).take (Utf8.decode s pos).2, rfl, rfl, h2, h3, e1, fun b hb => ?_, .inr ⟨blI_high _ (by omega), beq_eq_false_iff_ne.2 (by omega), ?_, ?_⟩⟩
    · rw [ext_list, ext_list]
      exact ext_more (by omega) e2 e1 hb
    · intro c hc
      obtain ⟨j, hj, rfl⟩ := List.getElem_of_mem hc
      rw [e2] at hj
      have := h4 (pos + j) (by omega) (by omega) (by omega)
      simp only [List.getElem_take, List.getElem_drop]
      exact this
    · intro e0
      rw [e0] at e2
      simp at e2
      omega
/-- The iterator has moved on; nothing else has. -/
theorem Wi.next {w wr : World} {s : ByteArray} {v : Value} {bg : Int} {pos : Nat} {acc : List (List UInt8)} {cur : Option (List UInt8)} (h : Wi w s wr v bg pos acc cur) (p : Nat) :
    Has (wr.iterAt w.heap.size s p) (fun k => w.heap.size < k) 9 1 v acc.length (strs acc) ∧ Below w.heap.size w (wr.iterAt w.heap.size s p) ∧ (wr.iterAt w.heap.size s p).heap[w.heap.size]? = some (.stringIter s p) := by
  refine ⟨h.row.kept (fun k hk => Lib.iterAt_other wr w.heap.size k s p (by have := (h.row.lt k hk).1; omega)) (fun k hk => (h.row.lt k hk).1), Lib.below_iterAt h.bel (Nat.le_refl _) s p, Lib.iterAt_heap wr w.heap.size s pos p h.it⟩
set_option maxHeartbeats 8000000 in
theorem wordsOf_any (s : ByteArray) (w : World) (hs : s.size ≤ 1048576) :
    Calls Tryz.prog 36 #[.string s] w fun e w' => ∃ v, e = .returned v ∧ Has w' (fun k => w.heap.size < k) 9 1 v (words s.data.toList).length (strs (words s.data.toList)) ∧ Below w.heap.size w w' := by
  obtain ⟨ii, hii, hz0, hz1, hz2⟩ := info_s
  have hlen : s.data.toList.length = s.size := by simp
  go_enter Tryz.func36, Tryz.ntmps36
  go_upto_region 4 with fail
  go_loopw [3, 4] (fun s3 s4 wr => ∃ (v : Value) (bg : Int) (pos : Nat) (acc : List (List UInt8)) (cur : Option (List UInt8)), s3 = v ∧ s4 = .int .i64 bg ∧ Wi w s wr v bg pos acc cur) (fun _ _ wr => s.size - wr.iterPos w.heap.size)
  case atStart =>
    refine ⟨_, _, 0, [], none, rfl, rfl, ⟨Has.nil _ _ _ _, (Below.refl _ _).alloc (Nat.le_refl _) _, World.iter_heap w s 0, Nat.zero_le _, by simp, .inl ⟨rfl, rfl⟩, by simp [words]⟩⟩
  case round =>
    obtain ⟨v, bg, pos, acc, cur, rfl, rfl, hW⟩ := hrel
    obtain ⟨av, cv, rfl, hcv⟩ := hW.row.form
    have hip : ∀ (W : World) (p : Nat), W.heap[w.heap.size]? = some (.stringIter s p) → pos < s.size → pos < p → s.size - W.iterPos w.heap.size < s.size - wr.iterPos w.heap.size := by
      intro W p hW2 h1 h2
      unfold World.iterPos
      rw [hW2, hW.it]
      dsimp only
      omega
    by_cases hp : pos < s.size
    · have hwd := Lib.decode_width_pos s pos hp
      have hnx : ∀ ty, (Instr.next (.pointer (some ⟨w.heap.size, 0, none⟩)) true ty).run Tryz.prog wr = _ := fun ty => Lib.run_next_any_at wr w.heap.size s pos ty hW.it hp
      have hgd := get_drop s pos hp
      obtain ⟨rr, wd, h, hR⟩ := rune_at s pos hp
      rw [hR.r, hR.n] at hnx
      obtain ⟨hrow, hbel, hit2⟩ := hW.next (pos + wd)
      have hst := hip (wr.iterAt w.heap.size s (pos + wd)) (pos + wd) hit2 hp (by have := hR.pos1; omega)
      have hx := hR.ext
      have hdr := hR.drop
      have hle := hR.le
      have hp1 := hR.pos1
      have hkd := hR.kind
      have hacl := hW.len
      have heq := hW.eq
      have hcr := hW.cr
      clear hR hgd hwd hW hp
      replace hip := Mr.hid hip
      generalize wr.iterAt w.heap.size s (pos + wd) = w2 at *
      replace hx := Mr.hid hx
      have bB := Mr.hid (fun W => isBlank_any rr W)
      replace hrow := Mr.hid hrow
      replace hbel := Mr.hid hbel
      replace hit2 := Mr.hid hit2
      rw [hdr] at heq
      replace heq := Mr.hid heq
      clear hdr
      rcases hcr with ⟨hc0, hb0⟩ | ⟨b, hb0, hbp, hc0⟩
      · -- outside of a word
        subst hc0
        subst hb0
        cases hβ : blI rr with
        | true =>
          rcases hkd with ⟨c, k1, k2, rfl⟩ | ⟨k1, _⟩
          · have hbc : bl c = true := by rw [← k1, hβ]
            have h35 : (rr == 35) = false := by
              rw [k2]
              cases e : (c == 35) with
              | false => rfl
              | true => rw [eq_of_beq e] at hbc; exact absurd hbc (by decide)
            have heq2 : Hid (acc ++ wgo none (s.data.toList.drop (pos + wd)) = words s.data.toList) := by
              have := heq.out; simp only [List.cons_append, List.nil_append, wgo, hbc, if_true] at this; exact this
            rw [hβ] at bB
            clear heq k1 k2 hbc hβ
            go_wp2_with (go_at_call 50; refine (bB.out _).mono ?_; rintro e w9 ⟨rfl, hw9⟩; obtain rfl := hw9.symm)
            go_roundw
            case rel => exact ⟨_, _, pos + wd, acc, none, rfl, rfl, ⟨hrow.out, hbel.out, hit2.out, hle, by omega, .inl ⟨rfl, rfl⟩, heq2.out⟩⟩
            case measure => exact hst
          · rw [hβ] at k1; cases k1
        | false =>
          rw [hβ] at bB
          cases hγ : (rr == 35) with
          | true =>
            have hfin : Hid (words s.data.toList = acc) := by
              rcases hkd with ⟨c, k1, k2, rfl⟩ | ⟨k1, k2, _⟩
              · have h35 : c = 35 := eq_of_beq (by rw [← k2, hγ])
                have hbc : bl c = false := by rw [← k1, hβ]
                have := heq.out
                simp only [List.cons_append, List.nil_append, wgo, hbc, h35] at this
                rw [h35] at hbc
                simp [hbc] at this
                exact this.symm
              · rw [hγ] at k2; cases k2
            clear heq hkd hβ hst
            go_wp2_with (go_at_call 50; refine (bB.out _).mono ?_; rintro e w9 ⟨rfl, hw9⟩; obtain rfl := hw9.symm)
            go_ret
            exact ⟨_, rfl, by rw [hfin.out]; exact hrow.out, hbel.out⟩
          | false =>
            have heq2 : Hid (acc ++ wgo (some (s.extract pos (pos + wd)).data.toList) (s.data.toList.drop (pos + wd)) = words s.data.toList) := by
              have e0 : (s.extract pos (pos + wd)).data.toList = h := by
                rw [hx.out pos (Nat.le_refl _), ext_list, List.drop_take_self]; rfl
              have := heq.out
              show _ = _
              rw [e0]
              rcases hkd with ⟨c, k1, k2, rfl⟩ | ⟨k1, k2, k3, k4⟩
              · have h35 : ¬ c = 35 := fun e => by rw [e] at k2; rw [hγ] at k2; exact absurd k2 (by decide)
                have hbc : bl c = false := by rw [← k1, hβ]
                simp only [List.cons_append, List.nil_append, wgo, hbc, h35] at this
                simpa using this
              · rw [wgo_high h none _ k3 k4] at this
                simpa using this
            clear heq hkd hβ
            go_wp2_with (go_at_call 50; refine (bB.out _).mono ?_; rintro e w9 ⟨rfl, hw9⟩; obtain rfl := hw9.symm)
            go_roundw
            case rel => exact ⟨_, _, pos + wd, acc, _, rfl, rfl, ⟨hrow.out, hbel.out, hit2.out, hle, by omega, .inr ⟨pos, rfl, by omega, rfl⟩, heq2.out⟩⟩
            case measure => exact hst
      · -- inside of one
        subst hc0
        subst hb0
        have db : decide ((0 : Int) ≤ (b : Int)) = true := by simp
        cases hβ : blI rr with
        | false =>
          rw [hβ] at bB
          have heq2 : Hid (acc ++ wgo (some (s.extract b (pos + wd)).data.toList) (s.data.toList.drop (pos + wd)) = words s.data.toList) := by
            have := heq.out
            show _ = _
            rw [hx.out b hbp]
            rcases hkd with ⟨c, k1, k2, rfl⟩ | ⟨k1, k2, k3, k4⟩
            · have hbc : bl c = false := by rw [← k1, hβ]
              simp only [List.cons_append, List.nil_append, wgo, hbc] at this
              simpa using this
            · rw [wgo_high h _ _ k3 k4] at this
              simpa using this
          clear heq hkd hβ
          go_wp2_with (go_at_call 50; refine (bB.out _).mono ?_; rintro e w9 ⟨rfl, hw9⟩; obtain rfl := hw9.symm)
          go_roundw
          case rel => exact ⟨_, _, pos + wd, acc, _, rfl, rfl, ⟨hrow.out, hbel.out, hit2.out, hle, by omega, .inr ⟨b, rfl, by omega, rfl⟩, heq2.out⟩⟩
          case measure => exact hst
        | true =>
          rw [hβ] at bB
          have heq2 : Hid ((acc ++ [(s.extract b pos).data.toList]) ++ wgo none (s.data.toList.drop (pos + wd)) = words s.data.toList) := by
            have := heq.out
            show _ = _
            rcases hkd with ⟨c, k1, k2, rfl⟩ | ⟨k1, _⟩
            · have hbc : bl c = true := by rw [← k1, hβ]
              simp only [List.cons_append, List.nil_append, wgo, hbc, if_true] at this
              rw [List.append_assoc]
              exact this
            · rw [hβ] at k1; cases k1
          clear heq hkd hβ
          have q1 : (0 : Int) ≤ (b : Int) := by omega
          have q2 : (b : Int) ≤ (pos : Int) := by omega
          have q3 : (pos : Int) ≤ (s.size : Int) := by omega
          go_upto_region 8 with (go_at_call 50; refine (bB.out _).mono ?_; rintro e w9 ⟨rfl, hw9⟩; obtain rfl := hw9.symm)
          obtain ⟨T, hT⟩ : ∃ T, s.extract b pos = T := ⟨_, rfl⟩
          have hT' : Hid ((strs acc) ++ [.string T] = strs (acc ++ [(s.extract b pos).data.toList])) := by
            show _ = _
            rw [hT]
            simp [strs]
          rw [hT] at heq2
          have hT2 := Mr.hid hT
          go_wp2_with (at_builtin; refine wpList_append_has _ rfl _ _ 58 rfl (fun k => w.heap.size < k) 9 ii (.string ⟨#[]⟩) 1 16 Tryz.underlying58 hii hz0 hz1 hz2 rfl _ _ _ rfl (hrow.out.alloc _) ⟨w2.heap.size, 0, none⟩ 1 1 [.string T] rfl rfl ?c1 ?c2 ?c3 ?c4 ?c5 ?c6 ?_)
          case c1 =>
            intro j u hj
            match j, hj with
            | 0, hj => simp at hj; subst hj; simp [Addr.add]
          case c2 => intro u hu; simp at hu; subst hu; rfl
          case c3 => decide
          case c4 => unfold maxLen; omega
          case c5 => omega
          case c6 => simp; have := hbel.out.size; omega
          intro g cap w3 hh hgr hgg
          have hit3 : w3.heap[w.heap.size]? = some (.stringIter s (pos + wd)) := (hgr.block _ (by have := (Array.getElem?_eq_some_iff.1 hit2.out).1; simp; omega) (fun e => by have := (hrow.out.lt _ e.symm).1; omega)).trans ((Lib.alloc_old w2 _ _ (Array.getElem?_eq_some_iff.1 hit2.out).1).trans hit2.out)
          have hb3 : Below w.heap.size w w3 := (hbel.out.alloc hbel.out.size _).grown hgr (by have := hbel.out.size; simp; omega) (fun k hk => Nat.le_of_lt (hrow.out.lt k hk).1)
          have hst3 := hip.out w3 (pos + wd) hit3 (by omega) (by omega)
          have hl3 : (acc ++ [T.data.toList]).length = acc.length + 1 := by simp
          have hh2 : Hid (Has w3 (fun k => w.heap.size < k) 9 1 (.slice (some ⟨g, 0, none⟩) (acc.length + 1) cap) (acc ++ [T.data.toList]).length (strs (acc ++ [T.data.toList]))) := by
            have e1 := hT'.out
            rw [hT2.out] at e1
            show Has _ _ _ _ _ _ _
            rw [hl3, ← e1]
            exact hh
          replace hit3 := Mr.hid hit3
          replace hb3 := Mr.hid hb3
          clear hh hgr hgg hl3
          go_wp2
          go_roundw
          case rel => exact ⟨_, _, pos + wd, acc ++ [T.data.toList], none, rfl, rfl, ⟨hh2.out, hb3.out, hit3.out, hle, by simp; omega, .inl ⟨rfl, rfl⟩, heq2.out⟩⟩
          case measure => exact hst3
    · have hnx : ∀ ty, (Instr.next (.pointer (some ⟨w.heap.size, 0, none⟩)) true ty).run Tryz.prog wr = _ := fun ty => Lib.run_next_end_at wr w.heap.size s pos ty hW.it hp
      have hdn : s.data.toList.drop pos = [] := List.drop_eq_nil_of_le (by omega)
      have heq := hW.eq
      rw [hdn] at heq
      have hple := hW.le
      obtain rfl : pos = s.size := by omega
      have hacl := hW.len
      have hcr := hW.cr
      have hrow := Mr.hid hW.row
      have hbel := Mr.hid hW.bel
      clear hip hW hdn hp
      rcases hcr with ⟨hc0, hb0⟩ | ⟨b, hb0, hbp, hc0⟩
      · subst hc0
        subst hb0
        have hfin : Hid (words s.data.toList = acc) := by show _ = _; rw [← heq]; simp [wgo]
        clear heq
        go_wp2
        go_ret
        exact ⟨_, rfl, by rw [hfin.out]; exact hrow.out, hbel.out⟩
      · subst hc0
        subst hb0
        have db : decide ((0 : Int) ≤ (b : Int)) = true := by simp
        have q1 : (0 : Int) ≤ (b : Int) := by omega
        have q2 : (b : Int) ≤ (s.size : Int) := by omega
        obtain ⟨T, hT⟩ : ∃ T, s.extract b s.size = T := ⟨_, rfl⟩
        have hfin : Hid (words s.data.toList = acc ++ [T.data.toList]) := by show _ = _; rw [← heq, hT]; simp [wgo]
        have hT' : Hid ((strs acc) ++ [.string T] = strs (acc ++ [T.data.toList])) := by
          show _ = _
          simp [strs]
        clear heq
        go_wp2_with (at_builtin; refine wpList_append_has _ rfl _ _ 58 rfl (fun k => w.heap.size < k) 9 ii (.string ⟨#[]⟩) 1 16 Tryz.underlying58 hii hz0 hz1 hz2 rfl _ _ _ rfl (hrow.out.alloc _) ⟨wr.heap.size, 0, none⟩ 1 1 [.string T] rfl rfl ?c1 ?c2 ?c3 ?c4 ?c5 ?c6 ?_)
        case c1 =>
          intro j u hj
          match j, hj with
          | 0, hj => simp at hj; subst hj; simp [Addr.add]
        case c2 => intro u hu; simp at hu; subst hu; rfl
        case c3 => decide
        case c4 => unfold maxLen; omega
        case c5 => omega
        case c6 => simp; have := hbel.out.size; omega
        intro g cap w3 hh hgr hgg
        have hb3 : Below w.heap.size w w3 := (hbel.out.alloc hbel.out.size _).grown hgr (by have := hbel.out.size; simp; omega) (fun k hk => Nat.le_of_lt (hrow.out.lt k hk).1)
        have hl3 : (acc ++ [T.data.toList]).length = acc.length + 1 := by simp
        have hh2 : Hid (Has w3 (fun k => w.heap.size < k) 9 1 (.slice (some ⟨g, 0, none⟩) (acc.length + 1) cap) (acc ++ [T.data.toList]).length (strs (acc ++ [T.data.toList]))) := by
          show Has _ _ _ _ _ _ _
          rw [hl3, ← hT'.out]
          exact hh
        replace hb3 := Mr.hid hb3
        clear hh hgr hgg hl3
        go_wp2
        go_ret
        exact ⟨_, rfl, by rw [hfin.out]; exact hh2.out, hb3.out⟩
end Go.Proofs.YtcomelbphdjnnaaGreatDoor.Sc
/-
  SCRIPT: isNumberLike, numberOf, numbersOf.
-/
namespace Go.Proofs.YtcomelbphdjnnaaGreatDoor.Sc
open Go.RowKit Mr
set_option linter.unusedVariables false
set_option linter.unusedSimpArgs false
set_option maxRecDepth 100000
theorem toList_nil0 : ByteArray.toList ⟨#[]⟩ = [] := by rw [ByteArray.toList_eq]
set_option maxHeartbeats 4000000 in
theorem isNum_any (s : ByteArray) (w : World) : Calls Tryz.prog 81 #[.string s] w fun e w' => e = .returned (.bool (numLike s.data.toList)) ∧ w' = w := by
  have C := Mr.hid (fun W => Tryz.strings_TrimPrefix s ⟨#[45]⟩ W)
  have tn := toList_nil0
  have hnl : Hid (numLike s.data.toList = match Lib.trimPrefix s.data.toList [45] with | [] => false | c :: _ => decide (48 ≤ c.toNat) && decide (c.toNat ≤ 57)) := rfl
  rw [hnl.out]
  have e0 : (⟨#[45]⟩ : ByteArray).data.toList = [45] := rfl
  rw [e0] at C
  clear e0 hnl
  cases hd : Lib.trimPrefix s.data.toList [45] with
  | nil =>
    rw [hd] at C
    clear hd
    go_enter Tryz.func81, Tryz.ntmps81
    go_wp2_with (go_at_call 96; refine (C.out _).mono ?_; clear C; rintro e w1 ⟨rfl, hw⟩; obtain rfl := hw.symm)
    go_ret
    exact ⟨rfl, rfl⟩
  | cons c r =>
    rw [hd] at C
    clear hd
    obtain ⟨D, hD⟩ : ∃ D : ByteArray, D = ⟨(c :: r).toArray⟩ := ⟨_, rfl⟩
    have hsz : 0 < D.size := by rw [hD]; simp [ByteArray.size]
    have hc0 : D[0].toNat = c.toNat := by simp only [hD]; rfl
    have hne : ¬ D.toList = [] := by rw [hD, ByteArray.toList_eq]; simp
    have hne2 : D.toList.isEmpty = false := by rw [hD, ByteArray.toList_eq]; simp
    rw [← hD] at C
    have hszI : (0 : Int) < (D.size : Int) := by omega
    have key : ∀ (b1 b2 : Bool), decide (48 ≤ c.toNat) = b1 → decide (c.toNat ≤ 57) = b2 → Calls Tryz.prog 81 #[.string s] w fun e w' => e = .returned (.bool (b1 && b2)) ∧ w' = w := by
      intro b1 b2 e1 e2
      rw [← hc0] at e1 e2
      have f1 : decide ((48 : Int) ≤ (D[0].toNat : Int)) = b1 := by rw [← e1]; congr 1; exact propext ⟨fun h => by omega, fun h => by omega⟩
      have f2 : decide ((D[0].toNat : Int) ≤ 57) = b2 := by rw [← e2]; congr 1; exact propext ⟨fun h => by omega, fun h => by omega⟩
      clear hc0 hD e1 e2
      cases b1 <;> cases b2 <;> (
        go_enter Tryz.func81, Tryz.ntmps81
        go_wp2_with (go_at_call 96; refine (C.out _).mono ?_; rintro e w1 ⟨rfl, hw⟩; obtain rfl := hw.symm)
        go_ret
        exact ⟨rfl, rfl⟩)
    exact key _ _ rfl rfl
theorem ba_ext {a b : ByteArray} (h : a.data.toList = b.data.toList) : a = b := by
  have h : a.data = b.data := Array.toList_inj.mp h
  cases a; cases b; simp_all
set_option maxHeartbeats 4000000 in
theorem numberOf_any (s : ByteArray) (w : World) (hs : s.size ≤ 281474976710656) (E : Env w) :
    Calls Tryz.prog 83 #[.string s] w fun e w' => e = .returned (.tuple #[.int .i64 (numV s.data.toList), .bool (numOk s.data.toList).isSome]) ∧ Below w.heap.size w w' := by
  cases h : Lib.atoiAll s.data.toList with
  | ok v =>
    have hb := Lib.atoiAll_bounds h
    have A1 := Mr.hid (fun W => Tryz.strconv_Atoi_ok s (by omega) v h W)
    have I1 : Hid (∀ W, Below w.heap.size w W → Calls Tryz.prog 44 #[.int .i64 v] W fun e w' => e = .returned (.string (ito v)) ∧ Below W.heap.size W w') := fun W hB => itoa_any v W hb (E.below hB)
    by_cases he : Lib.itoa v = s.data.toList
    · have e1 : Hid (numOk s.data.toList = some v) := by show _ = _; unfold numOk; rw [h]; simp [he]
      have e2 : Hid (numV s.data.toList = v) := by show _ = _; unfold numV; rw [e1.out]; rfl
      rw [e1.out, e2.out]
      have e3 : ito v = s := ba_ext (by simp [ito, he])
      rw [e3] at I1
      clear h he e1 e2 e3 hb E hs
      go_enter Tryz.func83, Tryz.ntmps83
      go_upto_region 2 with (go_at_call 97; refine (A1.out _).mono ?_; clear A1; rintro e w1 ⟨rfl, hw⟩)
      have B1 : Hid (Below w.heap.size w w1) := by
        rcases hw with rfl | ⟨t, rfl⟩
        · exact Below.refl _ _
        · exact Lib.bytesWorld_below _ _ _
      clear hw
      go_wp2_with (go_at_call 44; refine (I1.out _ B1.out).mono ?_; clear I1; rintro e w2 ⟨rfl, B2⟩; replace B2 := Mr.hid B2)
      go_ret2
      exact ⟨rfl, B1.out.trans (B2.out.mono B1.out.size)⟩
    · have e1 : Hid (numOk s.data.toList = none) := by show _ = _; unfold numOk; rw [h]; simp [he]
      have e2 : Hid (numV s.data.toList = 0) := by show _ = _; unfold numV; rw [e1.out]; rfl
      rw [e1.out, e2.out]
      have e3 : ¬ (ito v).toList = s.toList := by rw [ByteArray.toList_eq, ByteArray.toList_eq]; simpa [ito] using he
      have e4 : ((ito v).toList == s.toList) = false := beq_eq_false_iff_ne.2 e3
      generalize ito v = T at *
      clear h he e1 e2 hb E hs
      go_enter Tryz.func83, Tryz.ntmps83
      go_upto_region 2 with (go_at_call 97; refine (A1.out _).mono ?_; clear A1; rintro e w1 ⟨rfl, hw⟩)
      have B1 : Hid (Below w.heap.size w w1) := by
        rcases hw with rfl | ⟨t, rfl⟩
        · exact Below.refl _ _
        · exact Lib.bytesWorld_below _ _ _
      clear hw
      go_wp2_with (go_at_call 44; refine (I1.out _ B1.out).mono ?_; clear I1; rintro e w2 ⟨rfl, B2⟩; replace B2 := Mr.hid B2)
      go_ret2
      exact ⟨rfl, B1.out.trans (B2.out.mono B1.out.size)⟩
  | «syntax» =>
    have e1 : Hid (numOk s.data.toList = none) := by show _ = _; unfold numOk; rw [h]
    have e2 : Hid (numV s.data.toList = 0) := by show _ = _; unfold numV; rw [e1.out]; rfl
    rw [e1.out, e2.out]
    obtain ⟨tp, p, hv⟩ := E.syn
    have A1 := Mr.hid (Tryz.strconv_Atoi_syntax s hs h _ w hv (.inr ⟨_, _, rfl⟩))
    clear h e1 e2 E hs hv
    go_enter Tryz.func83, Tryz.ntmps83
    go_wp2_with (go_at_call 97; refine A1.out.mono ?_; clear A1; rintro e w1 ⟨N, rfl, -, -, B1⟩; replace B1 := Mr.hid B1)
    go_ret2
    exact ⟨rfl, B1.out⟩
  | range =>
    have e1 : Hid (numOk s.data.toList = none) := by show _ = _; unfold numOk; rw [h]
    have e2 : Hid (numV s.data.toList = 0) := by show _ = _; unfold numV; rw [e1.out]; rfl
    rw [e1.out, e2.out]
    obtain ⟨tp, p, hv⟩ := E.rng
    have A1 := Mr.hid (Tryz.strconv_Atoi_range s hs h _ w hv (.inr ⟨_, _, rfl⟩))
    clear h e1 e2 E hs hv
    go_enter Tryz.func83, Tryz.ntmps83
    go_wp2_with (go_at_call 97; refine A1.out.mono ?_; clear A1; rintro e w1 ⟨N, rfl, -, -, B1⟩; replace B1 := Mr.hid B1)
    go_ret2
    exact ⟨rfl, B1.out⟩
end Go.Proofs.YtcomelbphdjnnaaGreatDoor.Sc
