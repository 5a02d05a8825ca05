import Derived.Test.YtfhkgeoionkonaaGreatDoorNumVal
import Derived.Laws.IdiomStrings
/-
  THE DOCUMENT'S Digits and number by their contracts.
-/
namespace Go.Proofs.YtfhkgeoionkonaaGreatDoor.St
open Go.RowKit
open Go.Lib (decDigits)
set_option linter.unusedVariables false
theorem hidS {p : Prop} (h : p) : Hid p := h
set_option maxHeartbeats 2000000 in
set_option maxRecDepth 100000 in
theorem digits_any (u : Nat) (w : World) (hu : u < 18446744073709551616) :
    Calls Tryz.prog 26 #[.int .u64 (u : Int)] w fun e w' => e = .returned (.string (dec (u : Int))) ∧ Below w.heap.size w w' := by
  go_enter Tryz.func26, Tryz.ntmps26
  go_wp2
  go_loopg [0, 3] u (fun k s0 s3 wr => ∃ t : List UInt8, s0 = .int .u64 (k : Int) ∧ s3 = .string ⟨t.toArray⟩ ∧ decDigits u = decDigits k ++ t ∧ k < 18446744073709551616 ∧ t.length ≤ 20 ∧ Below w.heap.size w wr)
  case atStart => exact ⟨[], rfl, rfl, by simp, hu, by simp, Below.refl _ _⟩
  case round =>
    obtain ⟨t, rfl, rfl, hd, hk, ht, B⟩ := hrel
    have e1 : (gk : Int).tmod 10 = ((gk % 10 : Nat) : Int) := by rw [Int.tmod_eq_emod_of_nonneg (by omega)]; omega
    have e2 : (gk : Int).tdiv 10 = ((gk / 10 : Nat) : Int) := by rw [Int.tdiv_eq_ediv_of_nonneg (by omega)]; omega
    obtain ⟨d, hdd⟩ : ∃ d, d = gk % 10 := ⟨_, rfl⟩
    obtain ⟨q, hq⟩ : ∃ q, q = gk / 10 := ⟨_, rfl⟩
    have hd10 : d < 10 := by omega
    rw [← hdd] at e1
    rw [← hq] at e2
    have RC : (convert 40 9 (.slice (some ⟨wr.heap.size, 0, none⟩) 1 1)).run Tryz.prog (wr.alloc (.cells #[.int .u8 (48 + (d : Int))] 5)) = .ok (.string ⟨#[UInt8.ofNat (48 + d)]⟩) (wr.alloc (.cells #[.int .u8 (48 + (d : Int))] 5)) :=
      run_convert_bytes_back (P := Tryz.prog) _ 40 9 5 ⟨wr.heap.size, 0, none⟩ 1 [UInt8.ofNat (48 + d)] Tryz.underlying40 Tryz.underlying5 Tryz.underlying9 (fun j hj => by
        obtain rfl : j = 0 := by simpa using hj
        have hh : (wr.alloc (.cells #[.int .u8 (48 + (d : Int))] 5)).cell? ⟨wr.heap.size, 0, none⟩ = some (.int .u8 (48 + (d : Int))) := by rw [World.cell?_alloc_at _ _ _ _ rfl]; rfl
        have ha : (⟨wr.heap.size, 0, none⟩ : Addr).add 0 = ⟨wr.heap.size, 0, none⟩ := rfl
        rw [ha, hh]
        have := dig_nat d hd10
        show some (Value.int .u8 (48 + (d : Int))) = some (.int .u8 ((UInt8.ofNat (48 + d)).toNat : Int))
        rw [this]; rfl)
    obtain ⟨b, hb⟩ : ∃ b, UInt8.ofNat (48 + d) = b := ⟨_, rfl⟩
    rw [hb] at RC
    have hqw : IntKind.u64.wrap (q : Int) = (q : Int) := by unfold IntKind.wrap; simp [IntKind.bits, IntKind.signed]; omega
    have cat : (⟨#[b]⟩ : ByteArray) ++ ⟨t.toArray⟩ = ⟨(b :: t).toArray⟩ := ba_ext (by rw [app_list]; simp)
    have hlen := (dec_len u hu).2
    have hBa : ∀ o, Below w.heap.size w (wr.alloc o) := fun o => B.alloc B.size o
    replace hlen := hidS hlen
    replace cat := hidS cat
    replace hb := hidS hb
    replace hd := hidS hd
    replace hdd := hidS hdd
    replace hq := hidS hq
    replace B := hidS B
    by_cases hq0 : q = 0
    · subst hq0
      go_wp2
      go_ret
      refine ⟨?_, hBa _⟩
      have h1 := hq.out
      have h2 := hdd.out
      have h3 : gk < 10 := by omega
      have h4 := hd.out
      rw [Lib.decDigits_one h3, show gk = d by omega, hb.out] at h4
      show Ending.returned (.string ((⟨#[b]⟩ : ByteArray) ++ ⟨t.toArray⟩)) = _
      rw [cat.out]
      show _ = Ending.returned (.string ⟨(decDigits (u : Int).toNat).toArray⟩)
      rw [Int.toNat_natCast, h4]
      rfl
    · have hqb : ((q : Int) == 0) = false := by simp; omega
      go_wp2
      go_roundg q
      case measure => have := hq.out; omega
      case rel =>
        have h1 := hq.out
        have h2 := hdd.out
        have h4 : decDigits u = decDigits q ++ (b :: t) := by rw [hd.out, dec_step gk t (by omega), ← h2, ← h1, hb.out]
        refine ⟨b :: t, rfl, by rw [cat.out], h4, by omega, ?_, hBa _⟩
        have h5 := hlen.out
        rw [h4] at h5
        simp only [List.length_append] at h5
        omega
end Go.Proofs.YtfhkgeoionkonaaGreatDoor.St
