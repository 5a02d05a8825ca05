import Derived.Test.YtcomelbphdjnnaaGreatDoorJ03
import Derived.Test.YtcomelbphdjnnaaGreatDoorJ18
import Derived.LaidHandle
import Derived.LaidLaws
import Derived.Test.YtcomelbphdjnnaaGreatDoorJ07
import Derived.Test.YtcomelbphdjnnaaGreatDoorJ04
/-
  SCRIPT: what the rows list gives the walks, errors.errorType too.
-/
namespace Go.Proofs.YtcomelbphdjnnaaGreatDoor.Sc
open Go.RowKit Go.Shelf
set_option linter.unusedVariables false
theorem gET : Tryz.prog.globalNamed "errors.errorType" = some 0 := by kernel_rfl
theorem gRT : (Tryz.prog.cutTypes.find? (·.1 == "internal/reflectlite.rtype")).map (·.2) = some 127 := by kernel_rfl
theorem oneRow : ((List.range 220).filter fun t => Tryz.prog.rowNamed t [101, 114, 114, 111, 114]) = [54] := by kernel_rfl
theorem nTypes : Tryz.prog.types.size = 220 := by kernel_rfl
def kq (x : String × DataW Unit) : Bool := x.1 == "errors.errorType"
theorem et_of_laid {W : World} (h0 : laidMetH Tryz.prog Rows.scriptParsesRow.laid W) : EtAt W := by
  have h := laidMetH.filter kq h0
  have hl : Rows.scriptParsesRow.laid.filter kq = [("errors.errorType", .iface "internal/reflectlite.rtype" (.agg [.ptr (.lit (.string [101, 114, 114, 111, 114]))]))] := by rfl
  rw [hl] at h
  have h' : laidMet Tryz.prog [] W ∧ handlesMet Tryz.prog [("errors.errorType", .iface "internal/reflectlite.rtype" (.agg [.ptr (.lit (.string [101, 114, 114, 111, 114]))]))] W := h
  obtain ⟨name, u, ty, e1, e2, e3, e4, e5⟩ := h'.2 _ (List.mem_singleton.2 rfl)
  have en : name = [101, 114, 114, 111, 114] := (Option.some.inj e1).symm
  subst en
  obtain rfl := Option.some.inj (gRT.symm.trans e2)
  have hm : ty ∈ (List.range 220).filter fun t => Tryz.prog.rowNamed t [101, 114, 114, 111, 114] := List.mem_filter.2 ⟨List.mem_range.2 (by rw [← nTypes]; exact e3), e4⟩
  rw [oneRow] at hm
  obtain rfl := List.mem_singleton.1 hm
  have hh : typeHandle Tryz.prog 54 = .pointer (some ⟨7, 54, none⟩) := by kernel_rfl
  rw [hh] at e5
  have := World.var?_cell gET e5 0
  unfold EtAt
  simpa using this
theorem envx_of_laid {W : World} (h0 : laidMetH Tryz.prog Rows.scriptParsesRow.laid W) (hs : W.ShapedOpen Tryz.prog) : EnvX W := ⟨env_of_laid h0 hs, et_of_laid h0⟩
end Go.Proofs.YtcomelbphdjnnaaGreatDoor.Sc
/-
  SCRIPT: the document's Words.
-/
namespace Go.Proofs.YtcomelbphdjnnaaGreatDoor.Sc
open Go.RowKit Mr
set_option linter.unusedVariables false
set_option linter.unusedSimpArgs false
set_option maxRecDepth 100000
theorem blank_b (c : UInt8) (b1 b2 b3 : Bool) (e1 : ((c.toNat : Int) == 32) = b1) (e2 : ((c.toNat : Int) == 9) = b2) (e3 : ((c.toNat : Int) == 13) = b3) : bl c = (b1 || b2 || b3) := by
  rw [← blI_ascii]; unfold blI; rw [e1, e2, e3]
theorem strs_ba (x : ByteArray) : strs [x.data.toList] = [.string x] := by cases x; simp [strs]
theorem bl_yes (c : UInt8) (h : bl c = true) : ((c.toNat : Int) != 32) = false ∨ (((c.toNat : Int) != 32) = true ∧ ((c.toNat : Int) != 9) = false) ∨ (((c.toNat : Int) != 32) = true ∧ ((c.toNat : Int) != 9) = true ∧ ((c.toNat : Int) != 13) = false) := by
  have k := blank_b c _ _ _ rfl rfl rfl
  rw [h] at k
  simp only [bne]
  cases g1 : ((c.toNat : Int) == 32) <;> cases g2 : ((c.toNat : Int) == 9) <;> cases g3 : ((c.toNat : Int) == 13) <;> rw [g1, g2, g3] at k <;> first | exact absurd k (by decide) | decide
theorem bl_no (c : UInt8) (h : bl c = false) : ((c.toNat : Int) != 32) = true ∧ ((c.toNat : Int) != 9) = true ∧ ((c.toNat : Int) != 13) = true := by
  have k := blank_b c _ _ _ rfl rfl rfl
  rw [h] at k
  simp only [bne]
  cases g1 : ((c.toNat : Int) == 32) <;> cases g2 : ((c.toNat : Int) == 9) <;> cases g3 : ((c.toNat : Int) == 13) <;> rw [g1, g2, g3] at k <;> first | exact absurd k (by decide) | decide
theorem hash_b (c : UInt8) (b : Bool) (e : ((c.toNat : Int) == 35) = b) : (c = 35) = (b = true) := by
  refine propext ⟨fun h => by rw [h] at e; rw [← e]; rfl, fun h => ?_⟩
  rw [h] at e
  have h2 := eq_of_beq e
  exact UInt8.toNat_inj.1 (by simp; omega)
/-- A word's end. -/
theorem word_end (s : ByteArray) (i j : Nat) (hij : i < j) (hj : j ≤ s.size) (hb : ∀ t (h : t < s.size), i ≤ t → t < j → bl s[t] = false) (h35 : ∀ h : i < s.size, s[i] ≠ 35) (he : j = s.size ∨ ∃ h : j < s.size, bl s[j] = true) : wgo none (s.data.toList.drop i) = (s.extract i j).data.toList :: wgo none (s.data.toList.drop j) := by
  have hlen : s.data.toList.length = s.size := by simp
  have hat : ∀ t (h : t < s.size), s.data.toList[t]? = some s[t] := fun t h => by rw [List.getElem?_eq_getElem (by omega)]; simp; rfl
  have e1 : s.data.toList.drop i = (s.extract i j).data.toList ++ s.data.toList.drop j := by
    rw [ext_list]
    have h2 : s.data.toList = s.data.toList.take j ++ s.data.toList.drop j := (List.take_append_drop j _).symm
    conv => lhs; rw [h2]
    rw [List.drop_append_of_le_length (by rw [List.length_take]; omega)]
  have hx : ∀ t, (s.extract i j).data.toList[t]? = if i + t < j then s.data.toList[i + t]? else none := fun t => by
    rw [ext_list, List.getElem?_drop, List.getElem?_take]
  have hG : Gw (s.extract i j).data.toList := by
    refine ⟨fun e => ?_, fun c hc => ?_, ?_⟩
    · have := hx 0
      rw [e, if_pos (by omega), hat _ (by omega)] at this
      simp at this
    · obtain ⟨t, ht⟩ := List.getElem?_of_mem hc
      rw [hx t] at ht
      split at ht
      · rename_i hlt
        rw [hat _ (by omega)] at ht
        cases ht
        exact hb _ (by omega) (by omega) hlt
      · cases ht
    · rw [List.head?_eq_getElem?, hx 0, if_pos (by omega), hat _ (by omega)]
      intro e
      exact h35 (by omega) (by simpa using e)
  rw [e1, wgo_word hG]
  rcases he with rfl | ⟨h, hbl⟩
  · rw [List.drop_of_length_le (by omega)]; rfl
  · rw [get_drop s j h, wgo_blank _ _ hbl]
    congr 1
    simp [wgo, hbl]
set_option maxHeartbeats 8000000 in
theorem rWords_any (s : ByteArray) (w : World) (hs : s.size ≤ 1048576) :
    Calls Tryz.prog 23 #[.string s] w fun e w' => ∃ v, e = .returned v ∧ Has w' (fun k => w.heap.size ≤ k) 9 1 v (words s.data.toList).length (strs (words s.data.toList)) ∧ Below w.heap.size w w' := by
  obtain ⟨ii, hii, hz0, hz1, hz2⟩ := info_s
  have hlen : s.data.toList.length = s.size := by simp
  go_enter Tryz.func23, Tryz.ntmps23
  go_wp2
  go_loopg [3, 4] s.size (fun gk s3 s4 wr => ∃ (v : Value) (i : Nat) (acc : List (List UInt8)), s3 = v ∧ s4 = .int .i64 (i : Int) ∧ i + gk = s.size ∧ acc.length ≤ i ∧ Has wr (fun k => w.heap.size ≤ k) 9 1 v acc.length (strs acc) ∧ acc ++ wgo none (s.data.toList.drop i) = words s.data.toList ∧ Below w.heap.size w wr)
  case atStart => exact ⟨_, 0, [], rfl, rfl, by omega, by simp, Has.nil _ _ _ _, by simp [words], Below.refl _ _⟩
  case round =>
    obtain ⟨v, i, acc, rfl, rfl, hi, hac, hh, heq, hB⟩ := hrel
    obtain ⟨av, cv, rfl, hcv⟩ := hh.form
    by_cases hlt : i < s.size
    · have hlI : (i : Int) < (s.size : Int) := by omega
      have dl : decide ((i : Int) < (s.size : Int)) = true := by simpa using hlI
      have dn : decide (i < s.size) = true := decide_eq_true hlt
      have hw : IntKind.i64.wrap ((i : Int) + 1) = (i : Int) + 1 := i64x _ (by omega) (by omega)
      have hgd := get_drop s i hlt
      have hi' := Mr.hid hi
      replace hh := Mr.hid hh
      replace hB := Mr.hid hB
      have step : bl s[i] = true → acc ++ wgo none (s.data.toList.drop (i + 1)) = words s.data.toList := fun hb => by
        rw [hgd] at heq; simpa [wgo, hb] using heq
      replace step := Mr.hid step
      replace heq := Mr.hid heq
      replace hgd := Mr.hid hgd
      replace hlen := Mr.hid hlen
      obtain ⟨b1, e1⟩ : ∃ b, ((s[i].toNat : Int) == 32) = b := ⟨_, rfl⟩
      obtain ⟨b2, e2⟩ : ∃ b, ((s[i].toNat : Int) == 9) = b := ⟨_, rfl⟩
      obtain ⟨b3, e3⟩ : ∃ b, ((s[i].toNat : Int) == 13) = b := ⟨_, rfl⟩
      obtain ⟨b4, e4⟩ : ∃ b, ((s[i].toNat : Int) == 35) = b := ⟨_, rfl⟩
      have hbl := Mr.hid (blank_b s[i] b1 b2 b3 e1 e2 e3)
      have h35 := Mr.hid (hash_b s[i] b4 e4)
      clear hi
      cases b1 with
      | true =>
        go_wp2
        go_roundg (gk - 1)
        case measure => have := hi'.out; omega
        case rel => exact ⟨_, i + 1, acc, rfl, by simp, by have := hi'.out; omega, by omega, hh.out, step.out (by rw [hbl.out]; rfl), hB.out⟩
      | false =>
      cases b2 with
      | true =>
        go_wp2
        go_roundg (gk - 1)
        case measure => have := hi'.out; omega
        case rel => exact ⟨_, i + 1, acc, rfl, by simp, by have := hi'.out; omega, by omega, hh.out, step.out (by rw [hbl.out]; rfl), hB.out⟩
      | false =>
      cases b3 with
      | true =>
        go_wp2
        go_roundg (gk - 1)
        case measure => have := hi'.out; omega
        case rel => exact ⟨_, i + 1, acc, rfl, by simp, by have := hi'.out; omega, by omega, hh.out, step.out (by rw [hbl.out]; rfl), hB.out⟩
      | false =>
      have nb : Hid (bl s[i] = false) := by rw [hbl.out]; rfl
      cases b4 with
      | true =>
        go_wp2
        go_ret
        have hfin : words s.data.toList = acc := by
          have h := heq.out
          have e5 : s[i] = 35 := Eq.mpr h35.out (by trivial)
          have e6 := nb.out
          rw [e5] at e6
          rw [hgd.out, e5] at h
          simpa [wgo, e6] using h.symm
        exact ⟨_, rfl, by rw [hfin]; exact hh.out, hB.out⟩
      | false =>
        have ne35 : Hid (s[i] ≠ 35) := fun h => by have := h35.out; rw [eq_true h] at this; simp at this
        go_upto_region 8 with fail
        clear e1 e2 e3 e4 step hbl h35 hgd
        iterate 11 go_step
        go_cut [4] (fun s4 wq => ∃ j : Nat, s4 = .int .i64 (j : Int) ∧ i < j ∧ j ≤ s.size ∧ acc ++ (s.extract i j).data.toList :: wgo none (s.data.toList.drop j) = words s.data.toList ∧ wr = wq)
        case first =>
          go_upto_region 9 with fail
          go_loopg [4] (s.size - i) (fun gk s4 wq => ∃ j : Nat, s4 = .int .i64 (j : Int) ∧ i ≤ j ∧ j + gk = s.size ∧ (∀ t (h : t < s.size), i ≤ t → t < j → bl s[t] = false) ∧ wr = wq)
          case atStart => exact ⟨i, rfl, Nat.le_refl _, by omega, fun t h h1 h2 => by omega, rfl⟩
          case round =>
            obtain ⟨j, rfl, hij, hj, hno, hwq⟩ := hrel
            obtain rfl := hwq
            by_cases hjl : j < s.size
            · have kl : decide ((j : Int) < (s.size : Int)) = true := decide_eq_true (by omega)
              have kl2 : (j : Int) < (s.size : Int) := by omega
              have kn : decide (j < s.size) = true := decide_eq_true hjl
              have hwj : IntKind.i64.wrap ((j : Int) + 1) = (j : Int) + 1 := i64x _ (by omega) (by omega)
              have hj' := Mr.hid hj
              cases hbj : bl s[j] with
              | true =>
                have hgt : i < j := by
                  rcases Nat.lt_or_ge i j with h | h
                  · exact h
                  · obtain rfl : i = j := by omega
                    have := nb.out; rw [hbj] at this; cases this
                have hfin := Mr.hid (word_end s i j hgt (by omega) hno (fun _ => ne35.out) (.inr ⟨hjl, hbj⟩))
                have hor := bl_yes s[j] hbj
                clear hno hj hbj
                rcases hor with k1 | ⟨k1, k2⟩ | ⟨k1, k2, k3⟩
                all_goals (go_wp2; go_meet; case rel => exact ⟨j, rfl, hgt, by omega, by rw [← heq.out, hfin.out], rfl⟩)
              | false =>
                have hno' : Hid (∀ t (h : t < s.size), i ≤ t → t < j + 1 → bl s[t] = false) := fun t h h1 h2 => by
                  by_cases e : t = j
                  · subst e; exact hbj
                  · exact hno t h h1 (by omega)
                obtain ⟨k1, k2, k3⟩ := bl_no s[j] hbj
                clear hno hj hbj
                go_wp2
                go_roundg (gk - 1)
                case measure => have := hj'.out; omega
                case rel => exact ⟨j + 1, by simp, by omega, by have := hj'.out; omega, hno'.out, rfl⟩
            · obtain rfl : j = s.size := by omega
              have kl : decide ((s.size : Int) < (s.size : Int)) = false := by simp
              have kl2 : ¬ (s.size : Int) < (s.size : Int) := by omega
              have kn : decide (s.size < s.size) = false := by simp
              have hfin := Mr.hid (word_end s i s.size hlt (Nat.le_refl _) hno (fun _ => ne35.out) (.inl rfl))
              clear hno hj hjl
              go_wp2
              go_meet
              case rel => exact ⟨s.size, rfl, hlt, Nat.le_refl _, by rw [← heq.out, hfin.out], rfl⟩
        case rest =>
          obtain ⟨j, rfl, hij, hjs, hnext, hwq⟩ := hcut
          obtain rfl := hwq
          replace hnext := Mr.hid hnext
          have k1 : (i : Int) ≤ (j : Int) := by omega
          have k2 : (j : Int) ≤ (s.size : Int) := by omega
          have k3 : i ≤ j := by omega
          clear heq nb ne35 hw dl dn
          go_wp2_with (at_builtin; go_loud (refine wpList_append_has _ rfl _ _ 58 rfl (fun k => w.heap.size ≤ k) 9 ii (.string ⟨#[]⟩) 1 16 Tryz.underlying58 hii hz0 hz1 hz2 rfl _ _ _ rfl (hh.out.alloc _) ⟨wr.heap.size, 0, none⟩ 1 1 [.string (s.extract i j)] rfl rfl (newsOne _ _ _ rfl) (by intro u hu; simp at hu; subst hu; rfl) (by decide) (by unfold maxLen; omega) (by omega) (by simp; have := hB.out.size; omega) ?_); intro g2 cap2 w3 hh3 hgr hgg)
          have hB3 : Hid (Below w.heap.size w w3) := (hB.out.alloc hB.out.size _).grown hgr (by have := hB.out.size; simp; omega) (fun k hk => (hh.out.lt k hk).1)
          have hh4 : Hid (Has w3 (fun k => w.heap.size ≤ k) 9 1 (.slice (some ⟨g2, 0, none⟩) (acc.length + 1) cap2) (acc ++ [(s.extract i j).data.toList]).length (strs (acc ++ [(s.extract i j).data.toList]))) := by
            show Has _ _ _ _ _ _ _
            have h1 : (acc ++ [(s.extract i j).data.toList]).length = acc.length + 1 := by simp
            have h2 : strs (acc ++ [(s.extract i j).data.toList]) = strs acc ++ [.string (s.extract i j)] := by rw [← strs_ba]; simp [strs]
            rw [h1, h2]
            exact hh3
          clear hh3 hgr hgg hh hB
          go_wp2
          go_roundg (s.size - j)
          case measure => have := hi'.out; omega
          case rel => exact ⟨_, j, acc ++ [(s.extract i j).data.toList], rfl, rfl, by have := hi'.out; omega, by simp; omega, hh4.out, by rw [← hnext.out]; simp, hB3.out⟩
    · have dl : decide ((i : Int) < (s.size : Int)) = false := decide_eq_false (by omega)
      have dl2 : ¬ (i : Int) < (s.size : Int) := by omega
      have dn : decide (i < s.size) = false := decide_eq_false hlt
      have hfin : Hid (words s.data.toList = acc) := by
        rw [List.drop_of_length_le (by omega)] at heq
        show _ = _
        simpa [wgo] using heq.symm
      replace hh := Mr.hid hh
      replace hB := Mr.hid hB
      clear heq hlt hi hac
      go_wp2
      go_ret
      exact ⟨_, rfl, by rw [hfin.out]; exact hh.out, hB.out⟩
end Go.Proofs.YtcomelbphdjnnaaGreatDoor.Sc
