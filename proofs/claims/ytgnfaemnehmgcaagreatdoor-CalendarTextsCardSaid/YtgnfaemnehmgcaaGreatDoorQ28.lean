/- Layer 9 (calendar): the reference's Padded. (by gen_vg.py) -/
import Derived.Test.YtgnfaemnehmgcaaGreatDoorQ02
import Derived.Lib.Strings
import Derived.Lib.Slices
import Derived.Lib.Walk
import Derived.Laws.BytesString
namespace Go.Proofs.YtgnfaemnehmgcaaGreatDoor.Cal
open Go Go.RowKit
attribute [local go_sem] Oper.semAt_some
theorem conv_one (w : World) (x : Int) : (convert 49 9 (.slice (some ⟨w.heap.size, 0, none⟩) 1 1)).run Tryz.prog (w.alloc (.cells #[.int .u8 x] 5)) = .ok (.string ⟨#[UInt8.ofNat x.toNat]⟩) (w.alloc (.cells #[.int .u8 x] 5)) := by
  rw [run_convert_bytes_string _ _ _ 5 _ _ _ Tryz.underlying49 Tryz.underlying5 Tryz.underlying9]
  have hc : (w.alloc (.cells #[.int .u8 x] 5)).cell? ⟨w.heap.size, 0, none⟩ = some (.int .u8 x) := by simp
  exact run_bytesToString _ _ 1 1 [x] (by simp [loadCells, go_sem, hc])
attribute [local go_sem] conv_one
/-- the digits of a number; none of 0 -/
def digR (n : Nat) : List UInt8 := if _h : n = 0 then [] else digR (n / 10) ++ [48 + UInt8.ofNat (n % 10)]
termination_by n
decreasing_by omega
theorem digR_zero : digR 0 = [] := by rw [digR, dif_pos rfl]
theorem digR_step {n : Nat} (h : n ≠ 0) : digR n = digR (n / 10) ++ [48 + UInt8.ofNat (n % 10)] := by rw [digR, dif_neg h]
theorem digR_len : ∀ (k n : Nat), n < 10 ^ k → (digR n).length ≤ k
  | 0, n, h => by
    obtain rfl : n = 0 := by simpa using h
    rw [digR_zero]
    exact Nat.le_refl _
  | k + 1, n, h => by
    by_cases e : n = 0
    · subst e
      rw [digR_zero]
      exact Nat.zero_le _
    · rw [digR_step e, List.length_append]
      have := digR_len k (n / 10) (by rw [Nat.pow_succ] at h; omega)
      simp
      exact this
/-- what Padded returns -/
def padL (n : Int) (least : Nat) : List UInt8 := (if n < 0 then [45] else []) ++ (List.replicate (least - (digR n.natAbs).length) 48 ++ digR n.natAbs)
def sizeV : Value → Nat
  | .string s => s.size
  | _ => 0
set_option maxRecDepth 100000 in
set_option maxHeartbeats 1000000 in
theorem rPadded_pos (n : Int) (h0 : -9223372036854775808 ≤ n) (h9 : n ≤ 9223372036854775807) (hneg : ¬ n < 0) (least : Nat) (hl : least ≤ 4) (w : World) :
    Calls Tryz.prog 75 #[.int .i64 n, .int .i64 (least : Int)] w fun e w' => ∃ S, e = .returned (.string S) ∧ S.data.toList = padL n least ∧ Below w.heap.size w w' := by
  have HL := Lib.hid hl
  have HN := Lib.hid hneg
  have hdl : (digR n.natAbs).length ≤ 19 := digR_len 19 _ (by have : (10 : Nat) ^ 19 = 10000000000000000000 := by decide
                                                              omega)
  go_enter Tryz.func75, Tryz.ntmps75
  go_wp2_with fail
  go_loopw [0, 6, 7] (fun s0 s6 s7 wr => ∃ (z : Int) (S : ByteArray) (v7 : Value), s0 = .int .i64 z ∧ s6 = .string S ∧ s7 = v7 ∧ Hid (0 ≤ z ∧ z ≤ n) ∧ Hid (digR z.natAbs ++ S.data.toList = digR n.natAbs) ∧ Hid (Below w.heap.size w wr)) (fun s0 _ _ _ => (intOf s0).natAbs)
  case atStart => exact ⟨n, _, _, rfl, rfl, rfl, Lib.hid ⟨by omega, by omega⟩, Lib.hid (by simp), Lib.hid (Below.refl _ _)⟩
  case round =>
    obtain ⟨z, S, v7, rfl, rfl, rfl, HZ, HD, HB⟩ := hrel
    obtain ⟨z0, z9⟩ := HZ.out
    have hsz : S.size ≤ 30 := by have h2 := congrArg List.length HD.out; simp at h2; omega
    have hszi : (S.size : Int) ≤ 30 := by omega
    by_cases hz : z = 0
    · subst hz
      have HD := Lib.hid (show S.data.toList = digR n.natAbs by have := HD.out; rwa [show (0 : Int).natAbs = 0 from rfl, digR_zero, List.nil_append] at this)
      clear z0 z9 HZ h0 h9 hl hneg
      go_wp2_with fail
      go_loopw [6] (fun s6 wr => ∃ (j : Nat) (S : ByteArray), s6 = .string S ∧ Hid (S.data.toList = List.replicate j 48 ++ digR n.natAbs) ∧ Hid (j ≤ least - (digR n.natAbs).length) ∧ Hid (Below w.heap.size w wr)) (fun s _ => least - sizeV s)
      case atStart => exact ⟨0, S, rfl, Lib.hid (by simpa using HD.out), Lib.hid (Nat.zero_le _), HB⟩
      case round =>
        clear HB HD
        obtain ⟨j, S, rfl, HD, HJ, HB⟩ := hrel
        have hlen : S.size = j + (digR n.natAbs).length := by have := congrArg List.length HD.out; simpa using this
        have hl := HL.out
        have hj := HJ.out
        have hsz : S.size ≤ 30 := by omega
        have hszi : (S.size : Int) ≤ 30 := by omega
        by_cases hlt : S.size < least
        · have hki : (S.size : Int) < least := by omega
          have HD2 := Lib.hid (show ((⟨#[48]⟩ : ByteArray) ++ S).data.toList = List.replicate (j + 1) 48 ++ digR n.natAbs by rw [show ((⟨#[48]⟩ : ByteArray) ++ S).data.toList = 48 :: S.data.toList by simp, HD.out]; simp [List.replicate_succ])
          have HJ2 := Lib.hid (show j + 1 ≤ least - (digR n.natAbs).length by omega)
          have HS2 := Lib.hid (show least - ((⟨#[48]⟩ : ByteArray) ++ S).size < least - S.size by rw [show ((⟨#[48]⟩ : ByteArray) ++ S).size = S.size + 1 by rw [ByteArray.size_append]; show 1 + S.size = _; omega]; omega)
          clear hlen hj
          go_wp2_with fail
          go_roundw
          case rel => exact ⟨j + 1, _, rfl, HD2, HJ2, HB⟩
          case measure => exact HS2.out
        · have hki : ¬ (S.size : Int) < least := by omega
          have HR := Lib.hid (show (⟨#[]⟩ ++ S : ByteArray).data.toList = padL n least by
            have e : (⟨#[]⟩ ++ S : ByteArray).data.toList = S.data.toList := by simp
            have hj2 : j = least - (digR n.natAbs).length := by omega
            rw [e, HD.out, hj2]
            unfold padL
            rw [if_neg (by have := HN.out; omega)]
            simp)
          clear hlt hlen hj
          go_wp2_with fail
          go_ret
          exact ⟨_, rfl, HR.out, HB.out⟩
    · have hzq : (z == 0) = false := beq_eq_false_iff_ne.2 hz
      obtain ⟨k, hk⟩ : ∃ k : Nat, z = (k : Int) := ⟨z.natAbs, by omega⟩
      have hk0 : k ≠ 0 := by omega
      have hna : z.natAbs = k := by omega
      have d1 : z.tmod 10 = ((k % 10 : Nat) : Int) := by rw [hk, Int.tmod_eq_emod_of_nonneg (by omega)]; omega
      have d2 : z.tdiv 10 = ((k / 10 : Nat) : Int) := by rw [hk, Int.tdiv_eq_ediv_of_nonneg (by omega)]; omega
      have HD2 := Lib.hid (show digR (k / 10) ++ ((⟨#[48 + UInt8.ofNat (k % 10)]⟩ : ByteArray) ++ S).data.toList = digR n.natAbs by
        rw [← HD.out, hna, digR_step hk0]
        simp)
      have HM := Lib.hid (show (z.tdiv 10).natAbs < z.natAbs by rw [d2, hna]; omega)
      have HZ2 := Lib.hid (show 0 ≤ z.tdiv 10 ∧ z.tdiv 10 ≤ n by rw [d2]; omega)
      have HNA := Lib.hid (show (z.tdiv 10).natAbs = k / 10 by rw [d2]; omega)
      obtain ⟨r, hr⟩ : ∃ r : Nat, k % 10 = r := ⟨_, rfl⟩
      have hr9 : r < 10 := by omega
      rw [hr] at d1 HD2
      obtain ⟨q, hq⟩ : ∃ q, z.tdiv 10 = q := ⟨_, rfl⟩
      rw [hq] at HM HZ2 HNA
      have vq : IntKind.i64.wrap q = q := IntWalk.i64_in _ (by have := HZ2.out; omega)
      have d4 : IntKind.i64.wrap (48 + (r : Int)) = 48 + r := IntWalk.i64_in _ (by omega)
      have d5 : IntKind.u8.wrap (48 + (r : Int)) = 48 + r := IntWalk.u8_in _ (by omega)
      have d6 : (48 + (r : Int)).toNat = 48 + r := by omega
      have d7 : IntKind.i64.wrap (r : Int) = r := IntWalk.i64_in _ (by omega)
      have d8 : IntKind.i64.wrap (-(r : Int)) = -r := IntWalk.i64_in _ (by omega)
      have d9 : - -(r : Int) = r := by omega
      have hbn := Lib.hid (below_alloc (Below.refl wr.heap.size wr) (.cells #[.int .u8 (48 + (r : Int))] 5))
      have dz : IntKind.i64.wrap z = z := IntWalk.i64_in _ (by omega)
      clear hk hna d2 hr hk0 z0 z9
      go_wp2_with fail
      go_roundw
      case rel => exact ⟨q, _, _, rfl, rfl, rfl, HZ2, Lib.hid (by rw [HNA.out]; exact HD2.out), Lib.hid (bt HB.out hbn.out)⟩
      case measure => exact HM.out
set_option maxRecDepth 100000 in
set_option maxHeartbeats 1000000 in
theorem rPadded_neg (n : Int) (h0 : -9223372036854775808 ≤ n) (h9 : n ≤ 9223372036854775807) (hneg : n < 0) (least : Nat) (hl : least ≤ 4) (w : World) :
    Calls Tryz.prog 75 #[.int .i64 n, .int .i64 (least : Int)] w fun e w' => ∃ S, e = .returned (.string S) ∧ S.data.toList = padL n least ∧ Below w.heap.size w w' := by
  have HL := Lib.hid hl
  have HN := Lib.hid hneg
  have hdl : (digR n.natAbs).length ≤ 19 := digR_len 19 _ (by have : (10 : Nat) ^ 19 = 10000000000000000000 := by decide
                                                              omega)
  go_enter Tryz.func75, Tryz.ntmps75
  go_wp2_with fail
  go_loopw [0, 6, 7] (fun s0 s6 s7 wr => ∃ (z : Int) (S : ByteArray) (v7 : Value), s0 = .int .i64 z ∧ s6 = .string S ∧ s7 = v7 ∧ Hid (n ≤ z ∧ z ≤ 0) ∧ Hid (digR z.natAbs ++ S.data.toList = digR n.natAbs) ∧ Hid (Below w.heap.size w wr)) (fun s0 _ _ _ => (intOf s0).natAbs)
  case atStart => exact ⟨n, _, _, rfl, rfl, rfl, Lib.hid ⟨by omega, by omega⟩, Lib.hid (by simp), Lib.hid (Below.refl _ _)⟩
  case round =>
    obtain ⟨z, S, v7, rfl, rfl, rfl, HZ, HD, HB⟩ := hrel
    obtain ⟨z0, z9⟩ := HZ.out
    have hsz : S.size ≤ 30 := by have h2 := congrArg List.length HD.out; simp at h2; omega
    have hszi : (S.size : Int) ≤ 30 := by omega
    by_cases hz : z = 0
    · subst hz
      have HD := Lib.hid (show S.data.toList = digR n.natAbs by have := HD.out; rwa [show (0 : Int).natAbs = 0 from rfl, digR_zero, List.nil_append] at this)
      clear z0 z9 HZ h0 h9 hl hneg
      go_wp2_with fail
      go_loopw [6] (fun s6 wr => ∃ (j : Nat) (S : ByteArray), s6 = .string S ∧ Hid (S.data.toList = List.replicate j 48 ++ digR n.natAbs) ∧ Hid (j ≤ least - (digR n.natAbs).length) ∧ Hid (Below w.heap.size w wr)) (fun s _ => least - sizeV s)
      case atStart => exact ⟨0, S, rfl, Lib.hid (by simpa using HD.out), Lib.hid (Nat.zero_le _), HB⟩
      case round =>
        clear HB HD
        obtain ⟨j, S, rfl, HD, HJ, HB⟩ := hrel
        have hlen : S.size = j + (digR n.natAbs).length := by have := congrArg List.length HD.out; simpa using this
        have hl := HL.out
        have hj := HJ.out
        have hsz : S.size ≤ 30 := by omega
        have hszi : (S.size : Int) ≤ 30 := by omega
        by_cases hlt : S.size < least
        · have hki : (S.size : Int) < least := by omega
          have HD2 := Lib.hid (show ((⟨#[48]⟩ : ByteArray) ++ S).data.toList = List.replicate (j + 1) 48 ++ digR n.natAbs by rw [show ((⟨#[48]⟩ : ByteArray) ++ S).data.toList = 48 :: S.data.toList by simp, HD.out]; simp [List.replicate_succ])
          have HJ2 := Lib.hid (show j + 1 ≤ least - (digR n.natAbs).length by omega)
          have HS2 := Lib.hid (show least - ((⟨#[48]⟩ : ByteArray) ++ S).size < least - S.size by rw [show ((⟨#[48]⟩ : ByteArray) ++ S).size = S.size + 1 by rw [ByteArray.size_append]; show 1 + S.size = _; omega]; omega)
          clear hlen hj
          go_wp2_with fail
          go_roundw
          case rel => exact ⟨j + 1, _, rfl, HD2, HJ2, HB⟩
          case measure => exact HS2.out
        · have hki : ¬ (S.size : Int) < least := by omega
          have HR := Lib.hid (show (⟨#[45]⟩ ++ S : ByteArray).data.toList = padL n least by
            have e : (⟨#[45]⟩ ++ S : ByteArray).data.toList = 45 :: S.data.toList := by simp
            have hj2 : j = least - (digR n.natAbs).length := by omega
            rw [e, HD.out, hj2]
            unfold padL
            rw [if_pos (by have := HN.out; omega)]
            simp)
          clear hlt hlen hj
          go_wp2_with fail
          go_ret
          exact ⟨_, rfl, HR.out, HB.out⟩
    · have hzq : (z == 0) = false := beq_eq_false_iff_ne.2 hz
      obtain ⟨k, hk⟩ : ∃ k : Nat, z = -(k : Int) := ⟨z.natAbs, by omega⟩
      have hk0 : k ≠ 0 := by omega
      have hna : z.natAbs = k := by omega
      have d1 : z.tmod 10 = -((k % 10 : Nat) : Int) := by rw [hk, Int.neg_tmod, Int.tmod_eq_emod_of_nonneg (by omega)]; omega
      have d2 : z.tdiv 10 = -((k / 10 : Nat) : Int) := by rw [hk, Int.neg_tdiv, Int.tdiv_eq_ediv_of_nonneg (by omega)]; omega
      have HD2 := Lib.hid (show digR (k / 10) ++ ((⟨#[48 + UInt8.ofNat (k % 10)]⟩ : ByteArray) ++ S).data.toList = digR n.natAbs by
        rw [← HD.out, hna, digR_step hk0]
        simp)
      have HM := Lib.hid (show (z.tdiv 10).natAbs < z.natAbs by rw [d2, hna]; omega)
      have HZ2 := Lib.hid (show n ≤ z.tdiv 10 ∧ z.tdiv 10 ≤ 0 by rw [d2]; omega)
      have HNA := Lib.hid (show (z.tdiv 10).natAbs = k / 10 by rw [d2]; omega)
      obtain ⟨r, hr⟩ : ∃ r : Nat, k % 10 = r := ⟨_, rfl⟩
      have hr9 : r < 10 := by omega
      rw [hr] at d1 HD2
      obtain ⟨q, hq⟩ : ∃ q, z.tdiv 10 = q := ⟨_, rfl⟩
      rw [hq] at HM HZ2 HNA
      have vq : IntKind.i64.wrap q = q := IntWalk.i64_in _ (by have := HZ2.out; omega)
      have d4 : IntKind.i64.wrap (48 + (r : Int)) = 48 + r := IntWalk.i64_in _ (by omega)
      have d5 : IntKind.u8.wrap (48 + (r : Int)) = 48 + r := IntWalk.u8_in _ (by omega)
      have d6 : (48 + (r : Int)).toNat = 48 + r := by omega
      have d7 : IntKind.i64.wrap (r : Int) = r := IntWalk.i64_in _ (by omega)
      have d8 : IntKind.i64.wrap (-(r : Int)) = -r := IntWalk.i64_in _ (by omega)
      have d9 : - -(r : Int) = r := by omega
      have hbn := Lib.hid (below_alloc (Below.refl wr.heap.size wr) (.cells #[.int .u8 (48 + (r : Int))] 5))
      have dz : IntKind.i64.wrap z = z := IntWalk.i64_in _ (by omega)
      clear hk hna d2 hr hk0 z0 z9
      by_cases hr0 : r = 0
      · subst hr0
        have d1 : z.tmod 10 = 0 := by rw [d1]; rfl
        have HD2 := Lib.hid (show digR (k / 10) ++ ((⟨#[48]⟩ : ByteArray) ++ S).data.toList = digR n.natAbs from by simpa using HD2.out)
        have hbn := Lib.hid (below_alloc (Below.refl wr.heap.size wr) (.cells #[.int .u8 48] 5))
        go_wp2_with fail
        go_roundw
        case rel => exact ⟨q, _, _, rfl, rfl, rfl, HZ2, Lib.hid (by rw [HNA.out]; exact HD2.out), Lib.hid (bt HB.out hbn.out)⟩
        case measure => exact HM.out
      · have d3 : (-(r : Int)) < 0 := by omega
        have d3b : decide ((-(r : Int)) < 0) = true := by simp; omega
        go_wp2_with fail
        go_roundw
        case rel => exact ⟨q, _, _, rfl, rfl, rfl, HZ2, Lib.hid (by rw [HNA.out]; exact HD2.out), Lib.hid (bt HB.out hbn.out)⟩
        case measure => exact HM.out
end Go.Proofs.YtgnfaemnehmgcaaGreatDoor.Cal
